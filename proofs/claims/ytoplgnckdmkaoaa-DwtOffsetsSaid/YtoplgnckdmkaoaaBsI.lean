/-
  Layers 1 to 5, the base: DwD, DwE, DwF, DwG, DwH, DwI of one piece.
-/
import Derived.Test.YtoplgnckdmkaoaaBsH
import Derived.Test.YtoplgnckdmkaoaaBsF
import Derived.Laws.AppendOwnNone
import Derived.Laws.ResultCell
set_option maxRecDepth 100000
namespace Go.Proofs.Ytoplgnckdmkaoaa
open Go.RowKit

/-- An element of a list of slices: a slice that holds a list, apart from two blocks. -/
def Elt (W : World) (g1 g2 : Option Nat) (u : Value) (c : List Int) : Prop := ∃ s m, u = .slice s c.length m ∧ (c = [] ∨ ∃ b off, s = some ⟨b, off, none⟩ ∧ IntsAt W b off c ∧ g1 ≠ some b ∧ g2 ≠ some b)
theorem Elt.swap {W : World} {g1 g2 : Option Nat} {u : Value} {c : List Int} (h : Elt W g1 g2 u c) : Elt W g2 g1 u c := by
  obtain ⟨s, m, h1, h2⟩ := h
  refine ⟨s, m, h1, ?_⟩
  rcases h2 with h2 | ⟨b, off, h3, h4, h5, h6⟩
  · exact .inl h2
  · exact .inr ⟨b, off, h3, h4, h6, h5⟩
theorem Elt.holds {W : World} {g1 g2 : Option Nat} {u : Value} {c : List Int} (h : Elt W g1 g2 u c) : ∃ s m, u = .slice s c.length m ∧ HoldsI W s c := by
  obtain ⟨s, m, h1, h2⟩ := h
  refine ⟨s, m, h1, ?_⟩
  rcases h2 with h2 | ⟨b, off, h3, h4, _⟩
  · exact .inl h2
  · exact .inr ⟨b, off, h3, h4⟩
theorem Elt.step {W W1 : World} {g1 g2 : Option Nat} {u : Value} {c : List Int} (h : Elt W g1 g2 u c) (hb : Below W.heap.size W W1) : Elt W1 g1 g2 u c := by
  obtain ⟨s, m, h1, h2⟩ := h
  refine ⟨s, m, h1, ?_⟩
  rcases h2 with h2 | ⟨b, off, h3, h4, h5⟩
  · exact .inl h2
  · exact .inr ⟨b, off, h3, fun k hk => (hb.cell (p := ⟨b, _, none⟩) (cell_lt (h4 k hk))).trans (h4 k hk), h5⟩
/-- One of the two blocks grows, or is left for a new one. -/
theorem Elt.grow {W W2 : World} {g1 g2 g1' : Option Nat} {u : Value} {c : List Int} (h : Elt W g1 g2 u c) (X : Obj) (hg : (W.alloc X).grownBy W2 g1) (hat : g1' = g1 ∨ g1' = some (W.heap.size + 1)) : Elt W2 g1' g2 u c := by
  obtain ⟨s, m, h1, h2⟩ := h
  refine ⟨s, m, h1, ?_⟩
  by_cases hc : c = []
  · exact .inl hc
  rcases h2 with h2 | ⟨b, off, h3, h4, h5, h6⟩
  · exact .inl h2
  · have hlt : b < W.heap.size := cell_lt (h4 0 (List.length_pos_iff.2 hc))
    refine .inr ⟨b, off, h3, fun k hk => ?_, ?_, h6⟩
    · refine (World.cell?_of_block (w := W) ?_).trans (h4 k hk)
      rw [hg.block b (by simp; omega) (fun e => h5 e.symm)]
      exact ((Below.refl W.heap.size W).alloc (Nat.le_refl _) X).block b hlt
    · rcases hat with hat | hat
      · rw [hat]; exact h5
      · rw [hat]; intro e; have := Option.some.inj e; omega
theorem Elt.fresh {W W1 : World} {v1 v2 : Value} {n1 n2 : Nat} {x1 x2 : List Value} {base : Nat} {T : TypeId} {s : Option Addr} {c : List Int} {m : Nat} (o1 : W.ownsRow base T 1 v1 n1 x1) (o2 : W.ownsRow base T 1 v2 n2 x2) (hf : Fresh W s) (hH : HoldsI W1 s c) : Elt W1 v1.ownBlock v2.ownBlock (.slice s c.length m) c := by
  refine ⟨s, m, rfl, ?_⟩
  rcases hH with h | ⟨b, off, rfl, h⟩
  · exact .inl h
  · have hb := hf _ rfl
    refine .inr ⟨b, off, rfl, h, fun e => ?_, fun e => ?_⟩
    · have := (o1.lt b e).2; simp at hb; omega
    · have := (o2.lt b e).2; simp at hb; omega
def Elts (W : World) (g1 g2 : Option Nat) (us : List Value) (cs : List (List Int)) : Prop := us.length = cs.length ∧ ∀ k (h1 : k < us.length) (h2 : k < cs.length), Elt W g1 g2 us[k] cs[k]
theorem Elts.map {W W1 : World} {g1 g2 g1' g2' : Option Nat} {us : List Value} {cs : List (List Int)} (h : Elts W g1 g2 us cs) (f : ∀ u c, Elt W g1 g2 u c → Elt W1 g1' g2' u c) : Elts W1 g1' g2' us cs := ⟨h.1, fun k h1 h2 => f _ _ (h.2 k h1 h2)⟩
theorem Elts.push {W : World} {g1 g2 : Option Nat} {us : List Value} {cs : List (List Int)} {u : Value} {c : List Int} (h : Elts W g1 g2 us cs) (hu : Elt W g1 g2 u c) : Elts W g1 g2 (us ++ [u]) (cs ++ [c]) := by
  refine ⟨by simp [h.1], fun k h1 h2 => ?_⟩
  by_cases hk : k < us.length
  · rw [List.getElem_append_left hk, List.getElem_append_left (by have := h.1; omega)]
    exact h.2 k hk _
  · have e1 : k = us.length := by simp at h1; omega
    have e2 : k = cs.length := by have := h.1; omega
    subst e1
    rw [List.getElem_append_right (Nat.le_refl _), List.getElem_append_right (by omega)]
    simpa [e2] using hu
/-- Two lists of slices of the call's own. -/
structure C2 (w W : World) (v1 v2 : Value) (u1 u2 : List Value) (c1 c2 : List (List Int)) : Prop where
  below : Below w.heap.size w W
  own1 : W.ownsRow w.heap.size 24 1 v1 u1.length u1
  own2 : W.ownsRow w.heap.size 24 1 v2 u2.length u2
  apart : ∀ g, v1.ownBlock = some g → v2.ownBlock ≠ some g
  e1 : Elts W v1.ownBlock v2.ownBlock u1 c1
  e2 : Elts W v1.ownBlock v2.ownBlock u2 c2
theorem C2.swap {w W : World} {v1 v2 : Value} {u1 u2 : List Value} {c1 c2 : List (List Int)} (h : C2 w W v1 v2 u1 u2 c1 c2) : C2 w W v2 v1 u2 u1 c2 c1 :=
  ⟨h.below, h.own2, h.own1, fun g a b => h.apart g b a, h.e2.map fun _ _ => Elt.swap, h.e1.map fun _ _ => Elt.swap⟩
theorem C2.step {w W W1 : World} {v1 v2 : Value} {u1 u2 : List Value} {c1 c2 : List (List Int)} (h : C2 w W v1 v2 u1 u2 c1 c2) (hb : Below W.heap.size W W1) : C2 w W1 v1 v2 u1 u2 c1 c2 :=
  ⟨below_call h.below hb, own_below h.own1 hb, own_below h.own2 hb, h.apart, h.e1.map fun _ _ x => x.step hb, h.e2.map fun _ _ x => x.step hb⟩
theorem C2.push {w W W2 : World} {v1 v2 v' : Value} {u1 u2 : List Value} {c1 c2 : List (List Int)} {u : Value} {c : List Int} (h : C2 w W v1 v2 u1 u2 c1 c2) (hu : Elt W v1.ownBlock v2.ownBlock u c) (X : Obj) (hg : (W.alloc X).grownBy W2 v1.ownBlock)
    (hown : W2.ownsRow w.heap.size 24 1 v' (u1.length + 1) (u1 ++ [u])) (hat : v'.ownBlock = v1.ownBlock ∨ v'.ownBlock = some (W.heap.size + 1)) : C2 w W2 v' v2 (u1 ++ [u]) u2 (c1 ++ [c]) c2 := by
  refine ⟨(below_alloc h.below X).grown hg (below_alloc h.below X).size (fun k hk => (h.own1.lt k hk).1), by simpa using hown, own_heap h.own2 fun g hgg => ?_, fun g a b => ?_, (h.e1.push hu).map fun _ _ x => x.grow X hg hat, h.e2.map fun _ _ x => x.grow X hg hat⟩
  · have hlt := (h.own2.lt g hgg).2
    rw [hg.block g (by simp; omega) (fun e => h.apart g e.symm hgg)]
    exact ((Below.refl W.heap.size W).alloc (Nat.le_refl _) X).block g hlt
  · have hlt := (h.own2.lt g b).2
    rcases hat with hat | hat
    · exact h.apart g (hat ▸ a) b
    · rw [hat] at a
      have := Option.some.inj a
      omega
theorem C2.elt {w W W2 : World} {v1 v2 v' : Value} {u1 u2 : List Value} {c1 c2 : List (List Int)} (_h : C2 w W v1 v2 u1 u2 c1 c2) {u : Value} {c : List Int} (hu : Elt W v1.ownBlock v2.ownBlock u c) (X : Obj) (hg : (W.alloc X).grownBy W2 v1.ownBlock) (hat : v'.ownBlock = v1.ownBlock ∨ v'.ownBlock = some (W.heap.size + 1)) : Elt W2 v'.ownBlock v2.ownBlock u c := hu.grow X hg hat
theorem C2.holds {w W : World} {v1 v2 : Value} {u1 u2 : List Value} {c1 c2 : List (List Int)} (h : C2 w W v1 v2 u1 u2 c1 c2) : ∃ a m, v1 = .slice a c1.length m ∧ HoldsC W a c1 := by
  have hl := h.e1.1
  obtain ⟨h1, h2⟩ := h.own1
  rcases h2 with ⟨rfl, h0⟩ | ⟨g, cap, cur, rfl, hb, hg, hc, _, hs, ht⟩
  · refine ⟨none, 0, by rw [← hl, h0], .inl (List.length_eq_zero_iff.1 (by omega))⟩
  · refine ⟨some ⟨g, 0, none⟩, cap, by rw [hl], .inr ⟨g, 0, rfl, fun k hk => ?_⟩⟩
    obtain ⟨s, m, e, hH⟩ := (h.e1.2 k (by omega) hk).holds
    refine ⟨s, m, ?_, hH⟩
    have hk1 : k < u1.length := by omega
    have hcur : cur[k]? = some u1[k] := by
      have : (cur.toList.take (u1.length * 1))[k]? = some u1[k] := by rw [ht]; simp
      rw [List.getElem?_take_of_lt (by omega)] at this
      simpa using this
    rw [← e, Nat.zero_add]
    simp [World.cell?, hg, hcur]
end Go.Proofs.Ytoplgnckdmkaoaa

namespace Go.Proofs.Ytoplgnckdmkaoaa
open Go.RowKit

theorem infoS : (Try.prog.info? 24).map (fun i => (i.zero, i.size, i.bytes)) = some (some (.slice none 0 0), 1, 24) := by kernel_rfl
theorem one_newS (W : World) (x : Value) (T : TypeId) : ∀ j u, ([x] : List Value)[j]? = some u → (W.alloc (.cells #[x] T)).cell? ((⟨W.heap.size, 0, none⟩ : Addr).add j) = some u := by
  intro j u hj
  match j, hj with
  | 0, hj => simp at hj; subst hj; simp [Addr.add]
theorem fwd_n (l : List Int) (st kn : Int) (s : Option Addr) (m n : Nat) (w : World) (hk : kB kn = true) (hh : fwB l st = true) (hs : s = none → l.length = 0 ∧ m = 0) (hH : HoldsI w s l) (hn : n = l.length) : Calls Try.prog 141 #[.slice s n m, .int .i64 st, .int .i64 kn] w (GivesSplit (Ex.loF st kn l) (Ex.hiF st kn l) 0 w) := by
  subst hn
  exact fwd_yes l st kn s m w hk hh hs hH
theorem idx_facts {y n x N : Nat} (hy : y ≤ 4096) (hn : n ≤ 4096) (hx : x ≤ 4096) (hN : y * n + x < N) :
    ∃ p q : Nat, y * n = p ∧ p + x = q ∧ IntKind.i64.wrap ((y : Int) * (n : Int)) = (p : Int) ∧ wrap64 ((y : Int) * (n : Int)) = (p : Int) ∧ IntKind.i64.wrap ((p : Int) + (x : Int)) = (q : Int) ∧ (q : Int) < (N : Int) := by
  have hb := mul_4096 hy hn
  have hi : (y : Int) * (n : Int) = ((y * n : Nat) : Int) := by rw [Int.natCast_mul]
  generalize y * n = p at *
  refine ⟨p, p + x, rfl, rfl, ?_, ?_, ?_, by omega⟩
  · rw [hi, IntWalk.i64_in _ (by omega)]
  · rw [hi]; exact IntWalk.wrap64_in _ ⟨by omega, by omega⟩
  · rw [IntWalk.i64_in _ (by omega)]; omega
set_option maxRecDepth 100000 in
set_option maxHeartbeats 2000000 in
theorem cols_r (Q : List (List Int)) (n : Nat) (st kn : Int) (s : Option Addr) (m N h : Nat) (w : World) (hN : N = Q.flatten.length) (hh : h = Q.length) (hW : Ex.Wide n Q) (hn : n ≤ 4096) (hQ : h ≤ 4096) (hk : kB kn = true) (h0 : 0 ≤ st) (h1 : st ≤ 4096) (hw : Ex.within 281474976710656 Q.flatten) (hH : HoldsI w s Q.flatten) :
    Calls Try.prog 142 #[.slice s N m, .int .i64 n, .int .i64 h, .int .i64 st, .int .i64 kn] w fun e w' => ∃ v1 v2, e = .returned (.tuple #[v1, v2]) ∧ Gl w v1 (Ex.lowC st kn n Q).flatten w' ∧ Gl w v2 (Ex.highC st kn n Q).flatten w' := by
  obtain ⟨i0, hi, hz0, hz1, hz2⟩ := info_parts infoI
  obtain ⟨i1, gi, gz0, gz1, gz2⟩ := info_parts infoS
  have hlen := Ex.flat_len hW
  have hTl : (Ex.trn n Q).length = n := Ex.trn_len _ _
  have hcol : ∀ x (hx : x < (Ex.trn n Q).length), (Ex.trn n Q)[x].length = h ∧ fwB (Ex.trn n Q)[x] st = true ∧ ∀ y (hy : y < (Ex.trn n Q)[x].length), ∃ (hyx : y * n + x < Q.flatten.length), Q.flatten[y * n + x] = (Ex.trn n Q)[x][y] := by
    intro x hx
    have e1 : (Ex.trn n Q)[x].length = h := by rw [Ex.trn_mem (List.getElem_mem hx), hh]
    have key : ∀ y (hy : y < (Ex.trn n Q)[x].length), ∃ (hyx : y * n + x < Q.flatten.length), Q.flatten[y * n + x] = (Ex.trn n Q)[x][y] := by
      intro y hy
      have hyQ : y < Q.length := by omega
      have g := Ex.flat_get hW hyQ (x := x) (by omega)
      obtain ⟨ha, hb⟩ := List.getElem?_eq_some_iff.1 g
      refine ⟨ha, ?_⟩
      rw [hb]
      simp [Ex.trn]
    refine ⟨e1, fw_iff.2 ⟨⟨h0, h1, by omega⟩, fun v hv => ?_⟩, key⟩
    obtain ⟨y, hy, rfl⟩ := List.getElem_of_mem hv
    obtain ⟨ha, hb⟩ := key y hy
    rw [← hb]
    exact hw _ (List.getElem_mem ha)
  have HC : Hid _ := hcol
  clear hcol
  have hb0 : C2 w ((w.alloc (.cells #[] 24)).alloc (.cells #[] 24)) (.slice (some ⟨w.heap.size, 0, none⟩) 0 0) (.slice (some ⟨w.heap.size + 1, 0, none⟩) 0 0) [] [] [] [] := by
    have B1 := below_alloc (Below.refl _ w) (.cells #[] 24)
    refine ⟨below_alloc B1 _, ?_, ?_, fun g a b => ?_, ⟨rfl, fun k a => absurd a (Nat.not_lt_zero _)⟩, ⟨rfl, fun k a => absurd a (Nat.not_lt_zero _)⟩⟩
    · exact own_below (World.ownsRow_made (base := w.heap.size) (e := 24) (size := 1) w #[] 0 (Nat.le_refl _) (Nat.zero_le _) rfl) ((Below.refl _ _).alloc (Nat.le_refl _) _)
    · have := World.ownsRow_made (base := w.heap.size) (e := 24) (size := 1) (w.alloc (.cells #[] 24)) #[] 0 (by simp) (Nat.zero_le _) rfl
      simpa using this
    · simp [Value.ownBlock] at a b
      omega
  have HNl : Hid (N = Q.flatten.length) := hN
  have HHl : Hid (Q.length ≤ 4096) := by show Q.length ≤ 4096; omega
  clear hN hh hlen
  go_enter Try.func142, Try.ntmps142
  go_wp2_with fail
  go_loopw [12, 13, 14, 15, 16, 17, 18, 19] (fun v1 v2 i _ _ _ _ _ wr => ∃ (x : Nat) (x1 x2 : Value) (u1 u2 : List Value) (c1 c2 : List (List Int)), x ≤ n ∧ i = .int .i64 x ∧ x1 = v1 ∧ x2 = v2 ∧ c1 = ((Ex.trn n Q).take x).map (Ex.loF st kn) ∧ c2 = ((Ex.trn n Q).take x).map (Ex.hiF st kn) ∧ C2 w wr x1 x2 u1 u2 c1 c2) (fun _ _ i _ _ _ _ _ _ => n - (intOf i).toNat)
  case atStart => exact ⟨0, _, _, [], [], [], [], Nat.zero_le _, rfl, rfl, rfl, by simp, by simp, hb0⟩
  case round =>
    obtain ⟨W0, rfl⟩ : ∃ W0, W0 = wr := ⟨_, rfl⟩
    obtain ⟨x, x1, x2, u1, u2, c1, c2, hx, rfl, rfl, rfl, hc1, hc2, hG⟩ := hrel
    clear hb0
    by_cases hlt : x < n
    · have hxi : (x : Int) < (n : Int) := by omega
      have w1 : IntKind.i64.wrap ((x : Int) + 1) = (x : Int) + 1 := IntWalk.i64_in _ (by omega)
      have hxT : x < (Ex.trn n Q).length := by omega
      obtain ⟨hl, hfw, hget⟩ := HC.out x hxT
      have htk := List.take_succ_eq_append_getElem hxT
      have hd1 : c1 ++ [Ex.loF st kn (Ex.trn n Q)[x]] = ((Ex.trn n Q).take (x + 1)).map (Ex.loF st kn) := by rw [htk, List.map_append, ← hc1]; rfl
      have hd2 : c2 ++ [Ex.hiF st kn (Ex.trn n Q)[x]] = ((Ex.trn n Q).take (x + 1)).map (Ex.hiF st kn) := by rw [htk, List.map_append, ← hc2]; rfl
      have HD1 : Hid _ := hd1
      have HD2 : Hid _ := hd2
      have hcl1 : u1.length ≤ 4096 := by rw [hG.e1.1, hc1, List.length_map, List.length_take]; omega
      have hcl2 : u2.length ≤ 4096 := by rw [hG.e2.1, hc2, List.length_map, List.length_take]; omega
      clear hd1 hd2 hc1 hc2 htk
      generalize (Ex.trn n Q)[x] = col at *
      have hHr := hH.below hG.below (Nat.le_refl _)
      have G0 := Gl.made W0
      go_wp2_with fail
      go_loopw [15, 16] (fun v i wr => ∃ (y : Nat) (o : List Int) (z : Value), y ≤ h ∧ i = .int .i64 y ∧ o = col.take y ∧ z = v ∧ Gl W0 z o wr) (fun _ i _ => h - (intOf i).toNat)
      case atStart => exact ⟨0, [], _, Nat.zero_le _, rfl, by simp, rfl, G0⟩
      case round =>
        obtain ⟨y, o, z, hy, rfl, hO, rfl, hZ⟩ := hrel
        clear G0
        by_cases hlty : y < h
        · have hyi : (y : Int) < (h : Int) := by omega
          have v1 : IntKind.i64.wrap ((y : Int) + 1) = (y : Int) + 1 := IntWalk.i64_in _ (by omega)
          obtain ⟨hp1, hp2⟩ := hget y (by omega)
          obtain ⟨p, q, hp, hq, v2, v2', v3, hqN⟩ := idx_facts (y := y) (x := x) (by omega) hn (by omega) (by rw [HNl.out]; exact hp1 : y * n + x < N)
          have hyc : y < col.length := by omega
          have htk := List.take_succ_eq_append_getElem hyc
          have hHz := hHr.below hZ.below (Nat.le_refl _)
          rcases hHz with hz | ⟨bb, off, rfl, hr⟩
          · rw [hz] at hp1; exact absurd hp1 (Nat.not_lt_zero _)
          have y0 := hr (y * n + x) hp1
          rw [hp2, show off + (y * n + x) = off + q by rw [hp, hq]] at y0
          have hol : o.length ≤ 4096 := by rw [hO, List.length_take]; omega
          have hX0 : o ++ [col[y]] = col.take (y + 1) := by rw [htk, ← hO]
          have HX : Hid _ := hX0
          generalize col[y] = V at *
          clear hr hp1 hp2 htk hX0 hO hp hq
          go_wp2_with (first | (at_builtin; refine wpList_append_own _ rfl _ _ 24 rfl W0.heap.size 3 i0 (.int .i64 0) 1 8 Try.underlying24 hi hz0 hz1 hz2 rfl (by decide) _ _ _ rfl (own_below hZ.own ((Below.refl _ _).alloc (Nat.le_refl _) _)) ⟨wr.heap.size, 0, none⟩ 1 1 [.int .i64 V] rfl rfl (one_new wr _ _) (oneOne _) (by unfold maxLen; omega) (by omega) (by have := hZ.below.size; simp; omega) ?_))
          intro v' wz hown hgrow _
          obtain ⟨sv, mv, rfl⟩ := own_slice hown
          have HG : Hid _ := hZ.push _ hgrow hown
          clear hown hgrow hZ
          go_wp2
          go_roundw
          case rel => exact ⟨y + 1, _, _, by omega, by go_num, HX.out, rfl, HG.out⟩
          case measure => simp [intOf]; omega
        · obtain rfl : y = h := by omega
          have hE : o = col := by rw [hO, List.take_of_length_le (by omega)]
          subst hE
          obtain ⟨sc, mc, rfl, lc, bc1, bc2, _⟩ := hZ.holds
          have hG1 := hG.step hZ.below
          have hsn : sc = none → o.length = 0 ∧ mc = 0 := fun e => by
            refine ⟨?_, bc2 e⟩
            rcases lc with lc | ⟨_, _, lc, _⟩
            · rw [lc]; rfl
            · rw [e] at lc; cases lc
          have cF := fwd_n o st kn sc mc y wr hk hfw hsn lc hl.symm
          clear hO hZ hG
          go_wp2_with fail
          refine cF.mono ?_
          rintro e w3 ⟨s1, m1, s2, m2, rfl, a1, a2, hb, ⟨_, _, f1⟩, ⟨_, _, f2⟩⟩
          have E1 := Elt.fresh (m := m1) hG1.own1 hG1.own2 f1 a1
          have E2 := Elt.fresh (m := m2) hG1.own1 hG1.own2 f2 a2
          have hG2 := hG1.step hb
          clear a1 a2 hb f1 f2 hG1 cF lc
          go_wp2_with (first | (at_builtin; refine wpList_append_own_at _ rfl _ _ 132 rfl w.heap.size 24 i1 (.slice none 0 0) 1 24 Try.underlying132 gi gz0 gz1 gz2 rfl (by decide) _ _ _ rfl (own_below hG2.own1 ((Below.refl _ _).alloc (Nat.le_refl _) _)) ⟨w3.heap.size, 0, none⟩ 1 1 [.slice s1 (Ex.loF st kn o).length m1] rfl rfl (one_newS w3 _ _) (by intro u hu; simp at hu; subst hu; rfl) (by unfold maxLen; omega) (by omega) (by have := hG2.below.size; simp; omega) ?_))
          intro v1' w4 hown hgrow _ hat
          have E2' := hG2.elt (v' := v1') E2 _ hgrow hat
          have hG3 := hG2.push E1 _ hgrow hown hat
          obtain ⟨sv1, mv1, rfl⟩ := own_slice hown
          clear hown hgrow hat hG2 E1 E2
          go_wp2_with (first | (at_builtin; refine wpList_append_own_at _ rfl _ _ 132 rfl w.heap.size 24 i1 (.slice none 0 0) 1 24 Try.underlying132 gi gz0 gz1 gz2 rfl (by decide) _ _ _ rfl (own_below hG3.own2 ((Below.refl _ _).alloc (Nat.le_refl _) _)) ⟨w4.heap.size, 0, none⟩ 1 1 [.slice s2 (Ex.hiF st kn o).length m2] rfl rfl (one_newS w4 _ _) (by intro u hu; simp at hu; subst hu; rfl) (by unfold maxLen; omega) (by omega) (by have := hG3.below.size; simp; omega) ?_))
          intro v2' w5 hown hgrow _ hat
          have hG4 := (hG3.swap.push E2'.swap _ hgrow hown hat).swap
          obtain ⟨sv2, mv2, rfl⟩ := own_slice hown
          have HG : Hid _ := hG4
          clear hown hgrow hat hG3 hG4 E2'
          go_wp2
          go_roundw
          case rel => exact ⟨x + 1, _, _, _, _, _, _, by omega, by go_num, rfl, rfl, HD1.out, HD2.out, HG.out⟩
          case measure => simp [intOf]; omega
    · obtain rfl : x = n := by omega
      have hf1 : c1 = (Ex.lowR st kn (Ex.trn x Q)) := by rw [hc1, List.take_of_length_le (by omega)]; rfl
      have hf2 : c2 = (Ex.highR st kn (Ex.trn x Q)) := by rw [hc2, List.take_of_length_le (by omega)]; rfl
      have hQl : Q.length ≤ 4096 := HHl.out
      have k1 : ∀ y : Int, Ex.cntE y Q.length ≤ 4096 := fun y => by have := (Ex.cnt_next (s := y) (k := Q.length)).2.2; omega
      have k2 : ∀ y : Int, Ex.cntO y Q.length ≤ 4096 := fun y => by have := (Ex.cnt_next (s := y) (k := Q.length)).2.2; omega
      have W1 : Ex.Wide (Ex.cntE st Q.length) c1 := hf1 ▸ Ex.lowR_wide (Ex.trn_wide x Q)
      have W2 : Ex.Wide (Ex.cntO st Q.length) c2 := hf2 ▸ Ex.highR_wide (Ex.trn_wide x Q)
      have L1 : c1.length ≤ 4096 := by rw [hf1, Ex.lowR, List.length_map]; omega
      have L2 : c2.length ≤ 4096 := by rw [hf2, Ex.highR, List.length_map]; omega
      have F1 : Hid ((Ex.trn (Ex.cntE st Q.length) c1).flatten = (Ex.lowC st kn x Q).flatten) := by rw [hf1]; exact rfl
      have F2 : Hid ((Ex.trn (Ex.cntO st Q.length) c2).flatten = (Ex.highC st kn x Q).flatten) := by rw [hf2]; exact rfl
      obtain ⟨s1, m1, rfl, g1⟩ := hG.holds
      obtain ⟨s2, m2, rfl, g2⟩ := hG.swap.holds
      have HB : Hid _ := hG.below
      obtain ⟨N1, hN1⟩ : ∃ N1, c1.length = N1 := ⟨_, rfl⟩
      obtain ⟨N2, hN2⟩ : ∃ N2, c2.length = N2 := ⟨_, rfl⟩
      have cR1 := rows_r c1 _ s1 m1 W0 W1 (k1 st) L1 g1
      rw [hN1] at cR1
      rw [hN1, hN2]
      clear hc1 hc2 hf1 hf2 hG L1 W1 g1 hN1
      go_wp2_with fail
      refine cR1.mono ?_
      rintro e w6 ⟨v1, rfl, G1⟩
      have cR2 := rows_r c2 _ s2 m2 w6 W2 (k2 st) L2 (g2.call G1.below)
      rw [hN2] at cR2
      have HG1 : Hid _ := G1
      clear g2 cR1 G1 hN2
      go_wp2_with fail
      refine cR2.mono ?_
      rintro e w7 ⟨v2, rfl, G2⟩
      have R1 := (HG1.out.up HB.out).step G2.below
      have R2 := G2.up (below_call HB.out HG1.out.below)
      rw [F1.out] at R1
      rw [F2.out] at R2
      have HR1 : Hid _ := R1
      have HR2 : Hid _ := R2
      clear R1 R2 G2 cR2
      go_wp2
      go_ret2
      exact ⟨_, _, rfl, HR1.out, HR2.out⟩
end Go.Proofs.Ytoplgnckdmkaoaa

namespace Go.Proofs.Ytoplgnckdmkaoaa
open Go.RowKit

/-- append of a whole list that lies in memory, or of nothing, to a list of the call's own. -/
theorem append_holds {w : World} {ops : Array Oper} {rest : List Oper} {o : Oper} {a : Act} {Q : Exit → Act → World → Prop} (hgd : o.guard = none) (s x : Operand)
    (ho : o.op = .call { callee := .builtin .append, args := #[s, x], argTypes := #[24, 24] })
    (base : Nat) (v : Value) (out : List Int) (hs : a.eval s = v) (hown : w.ownsRow base 3 1 v out.length (out.map (Value.int .i64)))
    (sa : Option Addr) (m c : Nat) (E : List Int) (hx : a.eval x = .slice sa m c) (hm : m = E.length) (hH : HoldsI w sa E) (hnil : sa = none → c = 0) (hb : out.length + E.length ≤ 100000000) (hbase : base ≤ w.heap.size)
    (h : ∀ v' w', w'.ownsRow base 3 1 v' (out ++ E).length ((out ++ E).map (Value.int .i64)) → w.grownBy w' v.ownBlock → (v'.ownBlock = v.ownBlock ∨ v'.ownBlock = some w.heap.size) → wpList Try.prog ops Q rest (a.put o.dst v') w') :
    wpList Try.prog ops Q (o :: rest) a w := by
  obtain ⟨i0, hi, hz0, hz1, hz2⟩ := info_parts infoI
  subst hm
  cases sa with
  | none =>
    have hE : E = [] := by
      rcases hH with hH | ⟨_, _, hH, _⟩
      · exact hH
      · cases hH
    subst hE
    have hc := hnil rfl
    subst hc
    refine wpList_append_own_none hgd s x 24 ho base 3 i0 1 Try.underlying24 hi v out.length _ hs hown hx ?_
    refine h v w (by rw [List.append_nil]; exact hown) ?_ (.inl rfl)
    exact ⟨rfl, rfl, rfl, Nat.le_refl _, fun _ _ _ => rfl⟩
  | some ad =>
    refine wpList_append_own_at w hgd s x 24 ho base 3 i0 (.int .i64 0) 1 8 Try.underlying24 hi hz0 hz1 hz2 rfl (by decide) v out.length _ hs hown ad E.length c (E.map (Value.int .i64)) hx (by simp) (holdsI_list hH) (oneI _) (by unfold maxLen; omega) (by omega) hbase ?_
    intro v' w' h1 h2 _ h4
    refine h v' w' ?_ h2 h4
    rw [List.length_append, List.map_append]
    exact h1
theorem Gl.pushL {w W W2 : World} {v v' : Value} {out : List Int} (h : Gl w v out W) {o2 : List Int} (hg : W.grownBy W2 v.ownBlock) (hown : W2.ownsRow w.heap.size 3 1 v' o2.length (o2.map (Value.int .i64))) : Gl w v' o2 W2 :=
  ⟨h.below.grown hg h.below.size (fun k hk => (h.own.lt k hk).1), hown⟩
theorem G2.pushL {w W W2 : World} {v1 v2 v' : Value} {o1 o2 o3 : List Int} (h : G2 w v1 o1 v2 o2 W) (hg : W.grownBy W2 v1.ownBlock) (hown : W2.ownsRow w.heap.size 3 1 v' o3.length (o3.map (Value.int .i64))) (hat : v'.ownBlock = v1.ownBlock ∨ v'.ownBlock = some W.heap.size) : G2 w v' o3 v2 o2 W2 := by
  refine ⟨h.l1.pushL hg hown, ⟨(h.l1.pushL hg hown).below, own_heap h.l2.own fun g hgg => ?_⟩, fun g h1 h2 => ?_⟩
  · have hlt := (h.l2.own.lt g hgg).2
    exact hg.block g hlt (fun e => h.apart g e.symm hgg)
  · have hlt := (h.l2.own.lt g h2).2
    rcases hat with hat | hat
    · exact h.apart g (hat ▸ h1) h2
    · rw [hat] at h1
      have := Option.some.inj h1
      omega
theorem holds_pushL {W W0 W2 : World} {row : Option Nat} {s : Option Addr} {l : List Int} (h : HoldsI W s l) (hg : W.grownBy W2 row) (hf : Fresh W0 s) (hr : ∀ k, row = some k → k < W0.heap.size) : HoldsI W2 s l := by
  rcases h with h | ⟨b, off, rfl, h⟩
  · exact .inl h
  · by_cases hl : l = []
    · exact .inl hl
    · have hlt := cell_lt (h 0 (List.length_pos_iff.2 hl))
      refine .inr ⟨b, off, rfl, fun k hk => ?_⟩
      refine (World.cell?_of_block (w := W) (hg.block b hlt fun e => ?_)).trans (h k hk)
      have h1 := hr b e.symm
      have h2 := hf _ rfl
      simp at h2
      omega
/-- A part of a list, cut by two numbers. -/
theorem slice_row {w : World} {s : Option Addr} {l : List Int} {m : Nat} (hH : HoldsI w s l) (hs : s = none → l.length = 0 ∧ m = 0) (hm : l.length ≤ m) (p n : Nat) (hp : p + n ≤ l.length) :
    ∃ s' m', (∀ W, (Instr.slice 24 (.slice s l.length m) (some (.int .i64 (p : Int))) (some (.int .i64 ((p + n : Nat) : Int))) none).run Try.prog W = .ok (.slice s' n m') W) ∧ HoldsI w s' ((l.drop p).take n) ∧ (s' = none → n = 0 ∧ m' = 0) := by
  have hu : Try.prog.underlying 24 = some (.slice (Try.prog.elem 24)) := Try.underlying24
  have hsz : ∀ W, (sizeOf (Try.prog.elem 24)).run Try.prog W = .ok 1 W := fun W => by
    obtain ⟨i0, hi, _, hz1, _⟩ := info_parts infoI
    have he : Try.prog.elem 24 = 3 := by kernel_rfl
    rw [he]
    simp [sizeOf, typeInfo, hi, hz1]
  have hrun := fun W => run_slice_lh (P := Try.prog) (w := W) 24 s l.length m hu .i64 .i64 (p : Int) ((p + n : Nat) : Int) (by omega) (by omega) (by omega)
  by_cases he : m = p
  · refine ⟨s, 0, fun W => ?_, ?_, fun _ => ⟨by omega, rfl⟩⟩
    · rw [hrun W, hsz W]
      simp [Result.andThen, sliced, he]
      omega
    · have : n = 0 := by omega
      subst this
      exact .inl (by simp)
  · refine ⟨s.map (·.add p), m - p, fun W => ?_, ?_, fun h => ?_⟩
    · rw [hrun W, hsz W]
      simp [Result.andThen, sliced, he]
      omega
    · rcases hH with rfl | ⟨b, off, rfl, hr⟩
      · exact .inl (by simp)
      · refine .inr ⟨b, off + p, by simp [Addr.add_lit], fun k hk => ?_⟩
        have hk' : k < n ∧ p + k < l.length := by simp at hk; omega
        have := hr (p + k) hk'.2
        rw [show off + p + k = off + (p + k) by omega, this]
        simp
    · have hsn : s = none := by simpa using h
      obtain ⟨h1, h2⟩ := hs hsn
      exact ⟨by omega, by omega⟩
end Go.Proofs.Ytoplgnckdmkaoaa

namespace Go.Proofs.Ytoplgnckdmkaoaa
open Go.RowKit

def arrP (R : Nat → Pl.R) (V : Nat → Value) : Array Value := (rcs (R 0) ++ [V 0] ++ rcs (R 1) ++ [V 1] ++ rcs (R 2) ++ [V 2] ++ rcs (R 3) ++ [V 3]).toArray
theorem arrP_get (R : Nat → Pl.R) (V : Nat → Value) : arrP R V = #[.int .i64 (R 0).x0, .int .i64 (R 0).y0, .int .i64 (R 0).x1, .int .i64 (R 0).y1, V 0, .int .i64 (R 1).x0, .int .i64 (R 1).y0, .int .i64 (R 1).x1, .int .i64 (R 1).y1, V 1, .int .i64 (R 2).x0, .int .i64 (R 2).y0, .int .i64 (R 2).x1, .int .i64 (R 2).y1, V 2, .int .i64 (R 3).x0, .int .i64 (R 3).y0, .int .i64 (R 3).x1, .int .i64 (R 3).y1, V 3] := rfl
/-- What a plane of rows becomes: the rows of four planes, by orientation. -/
def bandQ (a b kn : Int) (n : Nat) (P : List (List Int)) (o : Nat) : List (List Int) :=
  if o = 0 then Ex.lowC b kn (Ex.cntE a n) (Ex.lowR a kn P) else if o = 1 then Ex.lowC b kn (Ex.cntO a n) (Ex.highR a kn P) else if o = 2 then Ex.highC b kn (Ex.cntE a n) (Ex.lowR a kn P) else Ex.highC b kn (Ex.cntO a n) (Ex.highR a kn P)
/-- Four planes and an error, in memory of the call's own. -/
def GivesP4 (R : Nat → Pl.R) (D : Nat → List Int) (err : Int) (w : World) (e : Ending) (w' : World) : Prop :=
  ∃ (s : Nat → Option Addr) (m : Nat → Nat), e = .returned (.tuple #[.agg (arrP R fun o => .slice (s o) (D o).length (m o)), .int .i64 err]) ∧ (∀ o, o < 4 → HoldsI w' (s o) (D o) ∧ (D o).length ≤ m o ∧ (s o = none → m o = 0) ∧ Fresh w (s o)) ∧ Below w.heap.size w w'
theorem info20 : (Try.prog.info? 27).map (·.size) = some 20 := by kernel_rfl
theorem pv_facts {a b c d : Int} {n : Nat} (h : pvB a b c d n = true) : ∃ x y : Nat, c - a = (x : Int) ∧ d - b = (y : Int) ∧ x ≤ 4096 ∧ y ≤ 4096 ∧ n = y * x ∧ 0 ≤ a ∧ a ≤ 4096 ∧ 0 ≤ b ∧ b ≤ 4096 ∧ 0 ≤ c ∧ c ≤ 4096 ∧ 0 ≤ d ∧ d ≤ 4096 ∧ Pl.validB a b c d = true := by
  obtain ⟨h1, _, h3⟩ := pv_iff.1 h
  obtain ⟨v1, v2, v3, v4, v5, v6⟩ := Pl.valid_iff.1 h1
  refine ⟨(c - a).toNat, (d - b).toNat, by omega, by omega, by omega, by omega, ?_, by omega, by omega, by omega, by omega, by omega, by omega, by omega, by omega, h1⟩
  have e1 : ((c - a).toNat : Int) = c - a := by omega
  have e2 : ((d - b).toNat : Int) = d - b := by omega
  have : (n : Int) = (((d - b).toNat * (c - a).toNat : Nat) : Int) := by
    rw [Int.natCast_mul, e1, e2, h3, Pl.areaI, if_pos h1, Int.mul_comm]
  omega
theorem row_facts {y n : Nat} (hy : y < 4096) (hn : n ≤ 4096) : ∃ p q : Nat, y * n = p ∧ y * n + n = q ∧ p + n = q ∧ IntKind.i64.wrap ((y : Int) * (n : Int)) = (p : Int) ∧ wrap64 ((y : Int) * (n : Int)) = (p : Int) ∧ IntKind.i64.wrap (((y : Int) + 1) * (n : Int)) = (q : Int) ∧ wrap64 (((y : Int) + 1) * (n : Int)) = (q : Int) ∧ IntKind.i64.wrap ((y : Int) + 1) = (y : Int) + 1 := by
  have hb := mul_4096 (show y + 1 ≤ 4096 by omega) hn
  have h1 : (y + 1) * n = y * n + n := by rw [Nat.add_mul, Nat.one_mul]
  have hi : (y : Int) * (n : Int) = ((y * n : Nat) : Int) := by rw [Int.natCast_mul]
  have hj : ((y : Int) + 1) * (n : Int) = ((y * n + n : Nat) : Int) := by rw [← h1, Int.natCast_mul]; rfl
  rw [h1] at hb
  generalize y * n = p at *
  refine ⟨p, p + n, rfl, rfl, rfl, ?_, ?_, ?_, ?_, IntWalk.i64_in _ (by omega)⟩
  · rw [hi, IntWalk.i64_in _ (by omega)]
  · rw [hi]; exact IntWalk.wrap64_in _ ⟨by omega, by omega⟩
  · rw [hj, IntWalk.i64_in _ (by omega)]
  · rw [hj]; exact IntWalk.wrap64_in _ ⟨by omega, by omega⟩
theorem bd_row {a : Int} {n h : Nat} {l : List Int} (hl : l.length = h * n) (hf : Ex.within 35184372088832 l) (h0 : 0 ≤ a) (h1 : a ≤ 4096) (hn : n ≤ 4096) {y : Nat} (hy : y < h) : fwB ((l.drop (y * n)).take n) a = true ∧ ((l.drop (y * n)).take n).length = n ∧ y * n + n ≤ l.length := by
  have : (y + 1) * n ≤ h * n := Nat.mul_le_mul_right _ hy
  rw [Nat.add_mul, Nat.one_mul] at this
  have hlen : ((l.drop (y * n)).take n).length = n := by simp; omega
  refine ⟨fw_iff.2 ⟨⟨h0, h1, by omega⟩, fun v hv => ?_⟩, hlen, by omega⟩
  have := hf v (List.mem_of_mem_drop (List.mem_of_mem_take hv))
  omega
theorem g2_cells {w W W1 : World} (h : Below w.heap.size w W) (h1 : Below W.heap.size W W1) {g1 g2 : Nat} (hg1 : W.heap.size ≤ g1) (hg2 : W.heap.size ≤ g2) (hne : g1 ≠ g2)
    (hr1 : W1.heap[g1]? = some (.cells #[] 3)) (hr2 : W1.heap[g2]? = some (.cells #[] 3)) : G2 w (.slice (some ⟨g1, 0, none⟩) 0 0) [] (.slice (some ⟨g2, 0, none⟩) 0 0) [] W1 := by
  have hs := h.size
  refine ⟨⟨below_call h h1, ⟨rfl, .inr ⟨g1, 0, #[], rfl, by omega, hr1, Nat.zero_le _, Nat.zero_le _, rfl, by simp⟩⟩⟩, ⟨below_call h h1, ⟨rfl, .inr ⟨g2, 0, #[], rfl, by omega, hr2, Nat.zero_le _, Nat.zero_le _, rfl, by simp⟩⟩⟩, fun g e1 e2 => ?_⟩
  simp [Value.ownBlock] at e1 e2
  exact hne (e1.trans e2.symm)
theorem g2_start {w W : World} (h : Below w.heap.size w W) : G2 w (.slice (some ⟨W.heap.size, 0, none⟩) 0 0) [] (.slice (some ⟨W.heap.size + 1, 0, none⟩) 0 0) [] ((W.alloc (.cells #[] 3)).alloc (.cells #[] 3)) := by
  refine g2_cells h (below_alloc (below_alloc (Below.refl _ W) _) _) (Nat.le_refl _) (Nat.le_succ _) (by omega) ?_ ?_
  · exact (((Below.refl (W.alloc (.cells #[] 3)).heap.size (W.alloc (.cells #[] 3))).alloc (Nat.le_refl _) _).block W.heap.size (by simp)).trans (heap_alloc_new W _)
  · have h := heap_alloc_new (W.alloc (.cells #[] 3)) (.cells #[] 3)
    rw [show (W.alloc (.cells #[] 3)).heap.size = W.heap.size + 1 by simp] at h
    exact h
def upK (R : Nat → Pl.R) (k : Nat) (o : Nat) : Pl.R := if o < k then R o else zR
theorem blkP_rect (R : Nat → Pl.R) (V : Nat → Value) (k : Nat) (hk : k < 4) {w : World} {B : Nat} {T : TypeId} (h : Blk w B T (arrP (upK R k) V)) :
    Blk ((((w.setCell ⟨B, 5 * k, none⟩ (.int .i64 (R k).x0)).setCell ⟨B, 5 * k + 1, none⟩ (.int .i64 (R k).y0)).setCell ⟨B, 5 * k + 2, none⟩ (.int .i64 (R k).x1)).setCell ⟨B, 5 * k + 3, none⟩ (.int .i64 (R k).y1)) B T (arrP (upK R (k + 1)) V) := by
  have h4 := (((h.set (5 * k) (.int .i64 (R k).x0)).set (5 * k + 1) (.int .i64 (R k).y0)).set (5 * k + 2) (.int .i64 (R k).x1)).set (5 * k + 3) (.int .i64 (R k).y1)
  have e : ((((arrP (upK R k) V).setIfInBounds (5 * k) (.int .i64 (R k).x0)).setIfInBounds (5 * k + 1) (.int .i64 (R k).y0)).setIfInBounds (5 * k + 2) (.int .i64 (R k).x1)).setIfInBounds (5 * k + 3) (.int .i64 (R k).y1) = arrP (upK R (k + 1)) V := by
    have hk5 : k = 0 ∨ k = 1 ∨ k = 2 ∨ k = 3 := by omega
    rcases hk5 with rfl | rfl | rfl | rfl <;> simp [arrP_get, upK]
  rw [e] at h4
  exact h4
theorem arrP_data (R : Nat → Pl.R) (V : Nat → Value) (o : Nat) (ho : o < 4) (v : Value) : (arrP R V).setIfInBounds (5 * o + 4) v = arrP R (fun i => if i = o then v else V i) := by
  have h : o = 0 ∨ o = 1 ∨ o = 2 ∨ o = 3 := by omega
  rcases h with rfl | rfl | rfl | rfl <;> simp [arrP_get]
theorem blkP_data {R : Nat → Pl.R} {V : Nat → Value} {w : World} {B : Nat} {T : TypeId} (h : Blk w B T (arrP R V)) (o : Nat) (ho : o < 4) (v : Value) : Blk (w.setCell ⟨B, 5 * o + 4, none⟩ v) B T (arrP R (fun i => if i = o then v else V i)) := by
  have := h.set (5 * o + 4) v
  rwa [arrP_data R V o ho v] at this
theorem lt4 {k : Nat} (h : k < 4) : k = 0 ∨ k = 1 ∨ k = 2 ∨ k = 3 := by omega
theorem HoldsI.farW {W W0 : World} {s : Option Addr} {l : List Int} (h : HoldsI W s l) (hf : Fresh W0 s) {B i : Nat} (hB : B < W0.heap.size) (v : Value) : HoldsI (W.setCell ⟨B, i, none⟩ v) s l := by
  rcases h with h | ⟨b, off, rfl, h⟩
  · exact .inl h
  · have h1 := hf _ rfl
    simp at h1
    exact .inr ⟨b, off, rfl, fun k hk => cell_far _ (h k hk) (by simp; omega)⟩
theorem HoldsI.rowW {W W0 : World} {s : Option Addr} {l : List Int} (h : HoldsI W s l) (hf : Fresh W0 s) {B : Nat} (hB : B < W0.heap.size) (cs : Array Value) : HoldsI (W.setRow B cs) s l := by
  rcases h with h | ⟨b, off, rfl, h⟩
  · exact .inl h
  · have h1 := hf _ rfl
    simp at h1
    refine .inr ⟨b, off, rfl, fun k hk => (World.cell?_of_block (w := W) ?_).trans (h k hk)⟩
    simp only [World.setRow, Array.getElem?_modify]
    rw [if_neg (by omega)]
theorem Fresh.up {w W : World} {s : Option Addr} (h : Fresh W s) (hb : Below w.heap.size w W) : Fresh w s := fun a e => Nat.le_trans hb.size (h a e)
theorem lohi_within {b s kn : Int} {x : List Int} (hk : kB kn = true) (hb : 0 ≤ b) (hw : Ex.within b x) : Ex.within (4 * b + 2) (Ex.loF s kn x) ∧ Ex.within (4 * b + 2) (Ex.hiF s kn x) := by
  have hkk := k_iff.1 hk
  obtain ⟨b1, b2, b3, b4⟩ := hb_bd hkk hb
  refine ⟨fun v hv => ?_, fun v hv => ?_⟩
  · obtain ⟨j, hj, hp, rfl⟩ := Ex.splitE_mem hv
    have hj' := hj
    rw [Ex.fwd_len] at hj'
    have := (Ex.fwd_bd (s := s) hkk hb hw (i := s + (j : Int)) (by omega) (by omega)).1 hp
    rw [Ex.sg_at hj] at this
    omega
  · obtain ⟨j, hj, hp, rfl⟩ := Ex.splitO_mem hv
    have hj' := hj
    rw [Ex.fwd_len] at hj'
    have := (Ex.fwd_bd (s := s) hkk hb hw (i := s + (j : Int)) (by omega) (by omega)).2 hp
    rw [Ex.sg_at hj] at this
    omega
theorem rows_within {b s kn : Int} {P : List (List Int)} (hk : kB kn = true) (hb : 0 ≤ b) (hw : Ex.within b P.flatten) : Ex.within (4 * b + 2) (Ex.lowR s kn P).flatten ∧ Ex.within (4 * b + 2) (Ex.highR s kn P).flatten := by
  have hr : ∀ r ∈ P, Ex.within b r := fun r hr v hv => hw v (List.mem_flatten.2 ⟨r, hr, hv⟩)
  refine ⟨fun v hv => ?_, fun v hv => ?_⟩
  · obtain ⟨q, hq, hv⟩ := List.mem_flatten.1 hv
    obtain ⟨r, hr', rfl⟩ := List.mem_map.1 hq
    exact (lohi_within hk hb (hr r hr')).1 v hv
  · obtain ⟨q, hq, hv⟩ := List.mem_flatten.1 hv
    obtain ⟨r, hr', rfl⟩ := List.mem_map.1 hq
    exact (lohi_within hk hb (hr r hr')).2 v hv
theorem bnds_w {a b c d : Int} {n : Nat} (hv : Pl.validB a b c d = true) (hn : c - a = (n : Int)) : (bnds ⟨a, b, c, d⟩ 0).x1 - (bnds ⟨a, b, c, d⟩ 0).x0 = (Ex.cntE a n : Int) ∧ (bnds ⟨a, b, c, d⟩ 1).x1 - (bnds ⟨a, b, c, d⟩ 1).x0 = (Ex.cntO a n : Int) := by
  rw [bnds, if_pos hv, bnds, if_pos hv]
  simp only [bndR, hfI, orH]
  unfold Ex.cntO Ex.cntE
  simp
  omega
theorem cntO_bd {a b c d : Int} {n : Nat} (hv : Pl.validB a b c d = true) (hn : c - a = (n : Int)) (n4 : n ≤ 4096) : IntKind.i64.wrap ((bnds ⟨a, b, c, d⟩ 0).x1 - (bnds ⟨a, b, c, d⟩ 0).x0) = (Ex.cntE a n : Int) ∧ IntKind.i64.wrap ((bnds ⟨a, b, c, d⟩ 1).x1 - (bnds ⟨a, b, c, d⟩ 1).x0) = (Ex.cntO a n : Int) := by
  obtain ⟨h1, h2⟩ := bnds_w hv hn
  have h3 := Ex.cnt_le (s := a) (n := n)
  exact ⟨by rw [h1, IntWalk.i64_in _ (by omega)], by rw [h2, IntWalk.i64_in _ (by omega)]⟩
set_option maxRecDepth 100000 in
set_option maxHeartbeats 4000000 in
theorem split5_yes (a b c d kn : Int) (l : List Int) (s : Option Addr) (m n h : Nat) (w : World) (hp : pvB a b c d l.length = true) (hk : kB kn = true) (hf : fewB l 35184372088832 = true) (hs : s = none → l.length = 0 ∧ m = 0) (hm : l.length ≤ m) (hH : HoldsI w s l) (hn : c - a = (n : Int)) (hh : d - b = (h : Int)) :
    Calls Try.prog 89 #[.agg #[.int .i64 a, .int .i64 b, .int .i64 c, .int .i64 d, .slice s l.length m], .int .i64 kn] w (GivesP4 (bnds ⟨a, b, c, d⟩) (fun o => (bandQ a b kn n (Ex.cutR n l h) o).flatten) 0 w) := by
  obtain ⟨n', h', e1, e2, n4, h4, hlen, a0, a1, b0, b1, c0, c1, d0, d1, hv⟩ := pv_facts hp
  obtain rfl : n' = n := by omega
  obtain rfl : h' = h := by omega
  clear e1 e2
  have hfw := few_iff.1 hf
  have w1 : IntKind.i64.wrap (c - a) = (n' : Int) := by rw [IntWalk.i64_in _ (by omega)]; exact hn
  have w2 : IntKind.i64.wrap (d - b) = (h' : Int) := by rw [IntWalk.i64_in _ (by omega)]; exact hh
  have hl4 : l.length ≤ 16777216 := by rw [hlen]; exact mul_4096 h4 n4
  have HLn : Hid _ := hlen
  clear hlen
  have x0 := (Blk.fresh w 26 #[.int .i64 a, .int .i64 b, .int .i64 c, .int .i64 d, .slice s l.length m]).alloc (.cells (arrP (fun _ => zR) fun _ => .slice none 0 0) 27)
  have x1 := Blk.freshAt (w.alloc (.cells #[.int .i64 a, .int .i64 b, .int .i64 c, .int .i64 d, .slice s l.length m] 26)) (w.heap.size + 1) (by simp) 27 (arrP (fun _ => zR) fun _ => .slice none 0 0)
  have lH := (hH.alloc (.cells #[.int .i64 a, .int .i64 b, .int .i64 c, .int .i64 d, .slice s l.length m] 26)).alloc (.cells (arrP (fun _ => zR) fun _ => .slice none 0 0) 27)
  have B := below_alloc (below_alloc (Below.refl _ w) (.cells #[.int .i64 a, .int .i64 b, .int .i64 c, .int .i64 d, .slice s l.length m] 26)) (.cells (arrP (fun _ => zR) fun _ => .slice none 0 0) 27)
  go_enter Try.func89, Try.ntmps89
  go_wp2_with fail
  refine (pv_r _ _ _ _ _ _ _ _).mono ?_
  rintro e wa ⟨rfl, hb⟩
  replace x0 := x0.below hb
  replace x1 := x1.below hb
  replace lH := lH.call hb
  replace B := below_call B hb
  clear hb
  have y0 := x0.cell 0 _ rfl
  have y1 := x0.cell 1 _ rfl
  have y2 := x0.cell 2 _ rfl
  have y3 := x0.cell 3 _ rfl
  have y4 := x0.cell 4 _ rfl
  have cA := (abv_r l 35184372088832 s m wa (by decide) (by decide) (by omega) lH).mono fun _ _ x => (⟨x.1, x.2.symm⟩ : _ ∧ wa = _)
  rw [hf] at cA
  clear hf
  go_wp2_with (first | (go_at_call 69; refine ((kn5_r _ _).mono fun _ _ x => (⟨x.1, x.2.symm⟩ : _ ∧ _)).mono ?_; rintro e wn ⟨rfl, rfl⟩) | (go_at_call 72; (with_reducible refine cA.mono ?_); rintro e wn ⟨rfl, rfl⟩))
  clear hp cA
  go_quiet (fail)
  obtain ⟨W1, hW1⟩ : ∃ W1, W1 = wa.drewN nq := ⟨_, rfl⟩
  have z0 : Blk W1 w.heap.size 26 #[.int .i64 a, .int .i64 b, .int .i64 c, .int .i64 d, .slice s l.length m] := hW1 ▸ x0.drewN nq
  have z1 : Blk W1 (w.heap.size + 1) 27 (arrP (fun _ => zR) fun _ => .slice none 0 0) := hW1 ▸ x1.drewN nq
  have zH : HoldsI W1 s l := hW1 ▸ (show HoldsI (wa.drewN nq) s l from lH)
  have BW : Below w.heap.size w W1 := hW1 ▸ below_drewN B nq
  rw [← hW1]
  have ga := g2_start (Below.refl W1.heap.size W1)
  have hS1 : (w.heap.size + 1) < W1.heap.size := z1.lt
  clear hW1 x0 x1 lH B y0 y1 y2 y3 y4 hH
  go_wp2_with fail
  go_loopw [8, 9, 10, 11, 12, 13] (fun v8 v9 i _ _ _ wr => ∃ (y : Nat) (o1 o2 : List Int) (q1 q2 : Value), y ≤ h' ∧ i = .int .i64 y ∧ q1 = v8 ∧ q2 = v9 ∧ o1 = ((Ex.lowR a kn (Ex.cutR n' l h')).take y).flatten ∧ o2 = ((Ex.highR a kn (Ex.cutR n' l h')).take y).flatten ∧ G2 W1 q1 o1 q2 o2 wr) (fun _ _ i _ _ _ _ => h' - (intOf i).toNat)
  case atStart => exact ⟨0, [], [], _, _, Nat.zero_le _, rfl, rfl, rfl, by simp, by simp, ga⟩
  case round =>
    obtain ⟨y, o1, o2, q1, q2, hy, rfl, rfl, rfl, hO1, hO2, hG⟩ := hrel
    clear ga
    by_cases hlt : y < h'
    · have hyi : (y : Int) < (h' : Int) := by omega
      obtain ⟨hfwr, hrl, hle⟩ := bd_row HLn.out hfw a0 a1 n4 hlt
      obtain ⟨s', m', hsl, hHr, hsn⟩ := slice_row (w := wr) (zH.below hG.l1.below (Nat.le_refl _)) hs hm (y * n') n' hle
      obtain ⟨p, q, ep, eq, epq, u1, u1', u2, u2', u3⟩ := row_facts (y := y) (by omega) n4
      have hyC : y < (Ex.cutR n' l h').length := by rw [Ex.cutR_len]; exact hlt
      have hrow : (Ex.cutR n' l h')[y] = (l.drop (y * n')).take n' := Ex.cutR_at hyC
      have hx1 : o1 ++ Ex.loF a kn (Ex.cutR n' l h')[y] = ((Ex.lowR a kn (Ex.cutR n' l h')).take (y + 1)).flatten := by
        rw [flat_next (by rw [Ex.lowR, List.length_map]; exact hyC), ← hO1]; simp [Ex.lowR]
      have hx2 : o2 ++ Ex.hiF a kn (Ex.cutR n' l h')[y] = ((Ex.highR a kn (Ex.cutR n' l h')).take (y + 1)).flatten := by
        rw [flat_next (by rw [Ex.highR, List.length_map]; exact hyC), ← hO2]; simp [Ex.highR]
      have hol : o1.length ≤ 16777216 ∧ o2.length ≤ 16777216 := by
        have hw := Ex.cutR_wide HLn.out
        rw [hO1, hO2, take_len (Ex.lowR_wide hw) (by rw [Ex.lowR, List.length_map]; omega), take_len (Ex.highR_wide hw) (by rw [Ex.highR, List.length_map]; omega)]
        have hk := Ex.cnt_le (s := a) (n := n')
        have hy4 : y ≤ 4096 := Nat.le_trans hy h4
        exact ⟨mul_4096 hy4 (Nat.le_trans hk.1 n4), mul_4096 hy4 (Nat.le_trans hk.2 n4)⟩
      rw [hrow] at hx1 hx2
      rw [eq] at hsl
      rw [ep] at hsl hHr hfwr hrl hx1 hx2
      obtain ⟨hol1, hol2⟩ := hol
      have HX1 : Hid _ := hx1
      have HX2 : Hid _ := hx2
      clear hx1 hx2 hrow hyC hO1 hO2 ep eq epq hle
      generalize (l.drop p).take n' = row at *
      have hrw : row.length ≤ 4096 := by omega
      have cF := fwd_n row a kn s' m' n' wr.drew hk hfwr (fun e => ⟨by rw [hrl]; exact (hsn e).1, (hsn e).2⟩) hHr hrl.symm
      have g0 := z0.below hG.l1.below
      have y0 := g0.cell 0 _ rfl
      have y4 := g0.cell 4 _ rfl
      clear hrl hfwr hsn hHr
      have hB1 := hG.l1.below
      have hl1 := fun k e => (hG.l1.own.lt k e).2
      have hl2 := fun k e => (hG.l2.own.lt k e).2
      go_wp2_with fail
      go_region_law (first | (go_simp; go_at_call 141; (with_reducible refine cF.mono ?_); rintro e w3 ⟨s1, m1, s2, m2, rfl, a1, a2, hb, ⟨c1, d1, f1⟩, ⟨c2, d2, f2⟩⟩; go_wp2_with fail))
      all_goals
        have hG3 := (hG.step (Below.refl _ wr).drew).step hb
        have e1 : Fresh wr s1 := f1
        have e2 : Fresh wr s2 := f2
        have t1 : (Ex.loF a kn row).length ≤ 4096 := by rw [Ex.loF_len]; exact Nat.le_trans Ex.cnt_le.1 hrw
        have t2 : (Ex.hiF a kn row).length ≤ 4096 := by rw [Ex.hiF_len]; exact Nat.le_trans Ex.cnt_le.2 hrw
        go_wp2_with (at_builtin; refine append_holds rfl _ _ rfl W1.heap.size _ o1 rfl hG3.l1.own s1 _ m1 _ rfl rfl a1 d1 (by omega) hG3.l1.below.size ?_)
        intro v8 w4 own4 hg4 hat4
        have own4' : w4.ownsRow W1.heap.size 3 1 v8 (o1 ++ Ex.loF a kn row).length ((o1 ++ Ex.loF a kn row).map (Value.int .i64)) := by rw [List.length_append, List.map_append]; exact own4
        have hG4 := hG3.pushL hg4 own4' hat4
        have a3 := holds_pushL a2 hg4 e2 hl1
        obtain ⟨sv, mv, rfl⟩ := own_slice own4
        clear own4 own4' hg4 hat4 hG3 a1 a2 hb
        go_wp2_with (at_builtin; refine append_holds rfl _ _ rfl W1.heap.size _ o2 rfl hG4.l2.own s2 _ m2 _ rfl rfl a3 d2 (by omega) hG4.l2.below.size ?_)
        intro v9 w5 own5 hg5 hat5
        have own5' : w5.ownsRow W1.heap.size 3 1 v9 (o2 ++ Ex.hiF a kn row).length ((o2 ++ Ex.hiF a kn row).map (Value.int .i64)) := by rw [List.length_append, List.map_append]; exact own5
        have hG5 := (hG4.swap.pushL hg5 own5' hat5).swap
        obtain ⟨sv2, mv2, rfl⟩ := own_slice own5
        have HG : Hid _ := hG5
        clear own5 own5' hg5 hat5 hG4 hG5 a3
        go_wp2
        go_roundw
        case rel => exact ⟨y + 1, _, _, _, _, by omega, by go_num, rfl, rfl, HX1.out, HX2.out, HG.out⟩
        case measure => simp [intOf]; omega
    · obtain rfl : y = h' := Nat.le_antisymm hy (Nat.le_of_not_lt hlt)
      obtain ⟨W2, rfl⟩ : ∃ W2, W2 = wr := ⟨_, rfl⟩
      have hCl : (Ex.cutR n' l y).length = y := Ex.cutR_len _ _ _
      have hCw := Ex.cutR_wide HLn.out
      have hL : o1 = (Ex.lowR a kn (Ex.cutR n' l y)).flatten := by rw [hO1, List.take_of_length_le (by rw [Ex.lowR, List.length_map, hCl]; exact Nat.le_refl _)]
      have hR : o2 = (Ex.highR a kn (Ex.cutR n' l y)).flatten := by rw [hO2, List.take_of_length_le (by rw [Ex.highR, List.length_map, hCl]; exact Nat.le_refl _)]
      obtain ⟨s1, m1, rfl, l1, _⟩ := hG.l1.holds
      obtain ⟨s2, m2, rfl, l2, _⟩ := hG.l2.holds
      have g0 := z0.below hG.l1.below
      have g1 := z1.below hG.l1.below
      have BW2 := below_call BW hG.l1.below
      have hwr : Ex.within 140737488355330 o1 ∧ Ex.within 140737488355330 o2 := by
        rw [hL, hR]
        exact rows_within hk (show (0 : Int) ≤ 35184372088832 by decide) (by rw [Ex.cutR_flat HLn.out]; exact hfw)
      have y0 := g0.cell 0 _ rfl
      have y1 := g0.cell 1 _ rfl
      have y2 := g0.cell 2 _ rfl
      have y3 := g0.cell 3 _ rfl
      have HL : Hid _ := hL
      have HR : Hid _ := hR
      have HCl : Hid _ := hCl
      clear hO1 hO2 hL hR hG z0 z1 zH BW hCl hfw hlt
      obtain ⟨A, hA⟩ : ∃ A, A = arr4 (bnds ⟨a, b, c, d⟩) := ⟨_, rfl⟩
      have hA16 : 16 = A.size := by rw [hA]; rfl
      have HA16 : Hid _ := hA16
      clear hA16
      have hAo : A.all (·.oneCell') = true := by rw [hA]; exact one16 _
      have hAi : (Try.prog.info? 84).map (·.size) = some A.size := by rw [hA]; exact info16
      have cB := bands_r a b c d W2
      rw [← hA] at cB
      have HA : Hid _ := hA
      clear hA
      go_upto_region 16 with (first | (go_at_call 70; (with_reducible refine cB.mono ?_); rintro e w3 ⟨rfl, hb⟩) | (refine wpList_store_row rfl 84 (.tmp 14) (.tmp 77) rfl w3.heap.size A rfl rfl 84 _ (Blk.fresh w3 84 #[.int .i64 0, .int .i64 0, .int .i64 0, .int .i64 0, .int .i64 0, .int .i64 0, .int .i64 0, .int .i64 0, .int .i64 0, .int .i64 0, .int .i64 0, .int .i64 0, .int .i64 0, .int .i64 0, .int .i64 0, .int .i64 0]) hAi HA16.out hAo ?_))
      obtain ⟨W3, hW3⟩ : ∃ W3, W3 = (w3.alloc (.cells #[.int .i64 0, .int .i64 0, .int .i64 0, .int .i64 0, .int .i64 0, .int .i64 0, .int .i64 0, .int .i64 0, .int .i64 0, .int .i64 0, .int .i64 0, .int .i64 0, .int .i64 0, .int .i64 0, .int .i64 0, .int .i64 0] 84)).setRow w3.heap.size A := ⟨_, rfl⟩
      have r0 : Blk W3 w3.heap.size 84 A := hW3 ▸ (Blk.fresh w3 84 #[.int .i64 0, .int .i64 0, .int .i64 0, .int .i64 0, .int .i64 0, .int .i64 0, .int .i64 0, .int .i64 0, .int .i64 0, .int .i64 0, .int .i64 0, .int .i64 0, .int .i64 0, .int .i64 0, .int .i64 0, .int .i64 0]).row A
      have B3 : Below W2.heap.size W2 W3 := hW3 ▸ below_row (below_alloc hb _) hb.size _
      have hlt3 : w3.heap.size < W3.heap.size := r0.lt
      have hRB : W2.heap.size ≤ W3.heap.size := B3.size
      rw [← hW3]
      clear hW3
      go_wp2_with (refine wpList_store_row rfl 27 (.tmp 15) (.tmp 78) rfl W3.heap.size #[.int .i64 0, .int .i64 0, .int .i64 0, .int .i64 0, .slice none 0 0, .int .i64 0, .int .i64 0, .int .i64 0, .int .i64 0, .slice none 0 0, .int .i64 0, .int .i64 0, .int .i64 0, .int .i64 0, .slice none 0 0, .int .i64 0, .int .i64 0, .int .i64 0, .int .i64 0, .slice none 0 0] rfl rfl 27 _ (Blk.fresh W3 27 #[.int .i64 0, .int .i64 0, .int .i64 0, .int .i64 0, .slice none 0 0, .int .i64 0, .int .i64 0, .int .i64 0, .int .i64 0, .slice none 0 0, .int .i64 0, .int .i64 0, .int .i64 0, .int .i64 0, .slice none 0 0, .int .i64 0, .int .i64 0, .int .i64 0, .int .i64 0, .slice none 0 0]) info20 rfl (by simp [Value.oneCell']) ?_)
      have r1 : Blk _ W3.heap.size 27 (arrP (fun _ => zR) fun _ => .slice none 0 0) := (Blk.fresh W3 27 #[.int .i64 0, .int .i64 0, .int .i64 0, .int .i64 0, .slice none 0 0, .int .i64 0, .int .i64 0, .int .i64 0, .int .i64 0, .slice none 0 0, .int .i64 0, .int .i64 0, .int .i64 0, .int .i64 0, .slice none 0 0, .int .i64 0, .int .i64 0, .int .i64 0, .int .i64 0, .slice none 0 0]).row #[.int .i64 0, .int .i64 0, .int .i64 0, .int .i64 0, .slice none 0 0, .int .i64 0, .int .i64 0, .int .i64 0, .int .i64 0, .slice none 0 0, .int .i64 0, .int .i64 0, .int .i64 0, .int .i64 0, .slice none 0 0, .int .i64 0, .int .i64 0, .int .i64 0, .int .i64 0, .slice none 0 0]
      replace r0 : Blk _ w3.heap.size 84 A := (setRow_other (W3.alloc (.cells #[.int .i64 0, .int .i64 0, .int .i64 0, .int .i64 0, .slice none 0 0, .int .i64 0, .int .i64 0, .int .i64 0, .int .i64 0, .slice none 0 0, .int .i64 0, .int .i64 0, .int .i64 0, .int .i64 0, .slice none 0 0, .int .i64 0, .int .i64 0, .int .i64 0, .int .i64 0, .slice none 0 0] 27)) W3.heap.size w3.heap.size #[.int .i64 0, .int .i64 0, .int .i64 0, .int .i64 0, .slice none 0 0, .int .i64 0, .int .i64 0, .int .i64 0, .int .i64 0, .slice none 0 0, .int .i64 0, .int .i64 0, .int .i64 0, .int .i64 0, .slice none 0 0, .int .i64 0, .int .i64 0, .int .i64 0, .int .i64 0, .slice none 0 0] (Nat.ne_of_lt hlt3)).trans (r0.alloc (.cells #[.int .i64 0, .int .i64 0, .int .i64 0, .int .i64 0, .slice none 0 0, .int .i64 0, .int .i64 0, .int .i64 0, .int .i64 0, .slice none 0 0, .int .i64 0, .int .i64 0, .int .i64 0, .int .i64 0, .slice none 0 0, .int .i64 0, .int .i64 0, .int .i64 0, .int .i64 0, .slice none 0 0] 27))
      replace B3 := below_row (below_alloc B3 (.cells #[.int .i64 0, .int .i64 0, .int .i64 0, .int .i64 0, .slice none 0 0, .int .i64 0, .int .i64 0, .int .i64 0, .int .i64 0, .slice none 0 0, .int .i64 0, .int .i64 0, .int .i64 0, .int .i64 0, .slice none 0 0, .int .i64 0, .int .i64 0, .int .i64 0, .int .i64 0, .slice none 0 0] 27)) hRB #[.int .i64 0, .int .i64 0, .int .i64 0, .int .i64 0, .slice none 0 0, .int .i64 0, .int .i64 0, .int .i64 0, .int .i64 0, .slice none 0 0, .int .i64 0, .int .i64 0, .int .i64 0, .int .i64 0, .slice none 0 0, .int .i64 0, .int .i64 0, .int .i64 0, .int .i64 0, .slice none 0 0]
      clear hb y0 y1 y2 y3
      go_loopw [16] (fun i wr => ∃ k : Nat, k ≤ 4 ∧ i = .int .i64 k ∧ Blk wr w3.heap.size 84 A ∧ Blk wr W3.heap.size 27 (arrP (upK (bnds ⟨a, b, c, d⟩) k) fun _ => .slice none 0 0) ∧ Below W2.heap.size W2 wr) (fun i _ => 4 - (intOf i).toNat)
      case atStart => exact ⟨0, Nat.zero_le _, rfl, r0, r1, B3⟩
      case round =>
        obtain ⟨k, hk4, rfl, p0, p1, BP⟩ := hrel
        clear r0 r1 B3
        by_cases hlt : k < 4
        · have hk5 := lt4 hlt
          clear hk4 hlt
          rcases hk5 with rfl | rfl | rfl | rfl
          · have q0 : wr.cell? ⟨w3.heap.size, 0, none⟩ = some (.int .i64 (bnds ⟨a, b, c, d⟩ 0).x0) := p0.cell 0 _ (by rw [HA.out]; rfl)
            have q1 : wr.cell? ⟨w3.heap.size, 1, none⟩ = some (.int .i64 (bnds ⟨a, b, c, d⟩ 0).y0) := p0.cell 1 _ (by rw [HA.out]; rfl)
            have q2 : wr.cell? ⟨w3.heap.size, 2, none⟩ = some (.int .i64 (bnds ⟨a, b, c, d⟩ 0).x1) := p0.cell 2 _ (by rw [HA.out]; rfl)
            have q3 : wr.cell? ⟨w3.heap.size, 3, none⟩ = some (.int .i64 (bnds ⟨a, b, c, d⟩ 0).y1) := p0.cell 3 _ (by rw [HA.out]; rfl)
            have x0 := p1.cell 0 _ rfl
            have x1 := p1.cell 1 _ rfl
            have x2 := p1.cell 2 _ rfl
            have x3 := p1.cell 3 _ rfl
            have f0 := p1.free 0
            have f1 := p1.free 1
            have f2 := p1.free 2
            have f3 := p1.free 3
            have H1 : Hid _ := blkP_rect (bnds ⟨a, b, c, d⟩) _ 0 (by decide) p1
            have H0 : Hid _ := ((((p0.far ⟨W3.heap.size, 0, none⟩ (.int .i64 (bnds ⟨a, b, c, d⟩ 0).x0) (Nat.ne_of_lt hlt3)).far ⟨W3.heap.size, 1, none⟩ (.int .i64 (bnds ⟨a, b, c, d⟩ 0).y0) (Nat.ne_of_lt hlt3)).far ⟨W3.heap.size, 2, none⟩ (.int .i64 (bnds ⟨a, b, c, d⟩ 0).x1) (Nat.ne_of_lt hlt3)).far ⟨W3.heap.size, 3, none⟩ (.int .i64 (bnds ⟨a, b, c, d⟩ 0).y1) (Nat.ne_of_lt hlt3))
            have HB : Hid _ := ((((BP.setCell (p := ⟨W3.heap.size, 0, none⟩) hRB (.int .i64 (bnds ⟨a, b, c, d⟩ 0).x0)).setCell (p := ⟨W3.heap.size, 1, none⟩) hRB (.int .i64 (bnds ⟨a, b, c, d⟩ 0).y0)).setCell (p := ⟨W3.heap.size, 2, none⟩) hRB (.int .i64 (bnds ⟨a, b, c, d⟩ 0).x1)).setCell (p := ⟨W3.heap.size, 3, none⟩) hRB (.int .i64 (bnds ⟨a, b, c, d⟩ 0).y1))
            clear p0 p1 BP
            go_wp2
            go_roundw
            case rel => exact ⟨1, by decide, by go_num, H0.out, H1.out, HB.out⟩
            case measure => simp [intOf]
          · have q0 : wr.cell? ⟨w3.heap.size, 4, none⟩ = some (.int .i64 (bnds ⟨a, b, c, d⟩ 1).x0) := p0.cell 4 _ (by rw [HA.out]; rfl)
            have q1 : wr.cell? ⟨w3.heap.size, 5, none⟩ = some (.int .i64 (bnds ⟨a, b, c, d⟩ 1).y0) := p0.cell 5 _ (by rw [HA.out]; rfl)
            have q2 : wr.cell? ⟨w3.heap.size, 6, none⟩ = some (.int .i64 (bnds ⟨a, b, c, d⟩ 1).x1) := p0.cell 6 _ (by rw [HA.out]; rfl)
            have q3 : wr.cell? ⟨w3.heap.size, 7, none⟩ = some (.int .i64 (bnds ⟨a, b, c, d⟩ 1).y1) := p0.cell 7 _ (by rw [HA.out]; rfl)
            have x0 := p1.cell 5 _ rfl
            have x1 := p1.cell 6 _ rfl
            have x2 := p1.cell 7 _ rfl
            have x3 := p1.cell 8 _ rfl
            have f0 := p1.free 5
            have f1 := p1.free 6
            have f2 := p1.free 7
            have f3 := p1.free 8
            have H1 : Hid _ := blkP_rect (bnds ⟨a, b, c, d⟩) _ 1 (by decide) p1
            have H0 : Hid _ := ((((p0.far ⟨W3.heap.size, 5, none⟩ (.int .i64 (bnds ⟨a, b, c, d⟩ 1).x0) (Nat.ne_of_lt hlt3)).far ⟨W3.heap.size, 6, none⟩ (.int .i64 (bnds ⟨a, b, c, d⟩ 1).y0) (Nat.ne_of_lt hlt3)).far ⟨W3.heap.size, 7, none⟩ (.int .i64 (bnds ⟨a, b, c, d⟩ 1).x1) (Nat.ne_of_lt hlt3)).far ⟨W3.heap.size, 8, none⟩ (.int .i64 (bnds ⟨a, b, c, d⟩ 1).y1) (Nat.ne_of_lt hlt3))
            have HB : Hid _ := ((((BP.setCell (p := ⟨W3.heap.size, 5, none⟩) hRB (.int .i64 (bnds ⟨a, b, c, d⟩ 1).x0)).setCell (p := ⟨W3.heap.size, 6, none⟩) hRB (.int .i64 (bnds ⟨a, b, c, d⟩ 1).y0)).setCell (p := ⟨W3.heap.size, 7, none⟩) hRB (.int .i64 (bnds ⟨a, b, c, d⟩ 1).x1)).setCell (p := ⟨W3.heap.size, 8, none⟩) hRB (.int .i64 (bnds ⟨a, b, c, d⟩ 1).y1))
            clear p0 p1 BP
            go_wp2
            go_roundw
            case rel => exact ⟨2, by decide, by go_num, H0.out, H1.out, HB.out⟩
            case measure => simp [intOf]
          · have q0 : wr.cell? ⟨w3.heap.size, 8, none⟩ = some (.int .i64 (bnds ⟨a, b, c, d⟩ 2).x0) := p0.cell 8 _ (by rw [HA.out]; rfl)
            have q1 : wr.cell? ⟨w3.heap.size, 9, none⟩ = some (.int .i64 (bnds ⟨a, b, c, d⟩ 2).y0) := p0.cell 9 _ (by rw [HA.out]; rfl)
            have q2 : wr.cell? ⟨w3.heap.size, 10, none⟩ = some (.int .i64 (bnds ⟨a, b, c, d⟩ 2).x1) := p0.cell 10 _ (by rw [HA.out]; rfl)
            have q3 : wr.cell? ⟨w3.heap.size, 11, none⟩ = some (.int .i64 (bnds ⟨a, b, c, d⟩ 2).y1) := p0.cell 11 _ (by rw [HA.out]; rfl)
            have x0 := p1.cell 10 _ rfl
            have x1 := p1.cell 11 _ rfl
            have x2 := p1.cell 12 _ rfl
            have x3 := p1.cell 13 _ rfl
            have f0 := p1.free 10
            have f1 := p1.free 11
            have f2 := p1.free 12
            have f3 := p1.free 13
            have H1 : Hid _ := blkP_rect (bnds ⟨a, b, c, d⟩) _ 2 (by decide) p1
            have H0 : Hid _ := ((((p0.far ⟨W3.heap.size, 10, none⟩ (.int .i64 (bnds ⟨a, b, c, d⟩ 2).x0) (Nat.ne_of_lt hlt3)).far ⟨W3.heap.size, 11, none⟩ (.int .i64 (bnds ⟨a, b, c, d⟩ 2).y0) (Nat.ne_of_lt hlt3)).far ⟨W3.heap.size, 12, none⟩ (.int .i64 (bnds ⟨a, b, c, d⟩ 2).x1) (Nat.ne_of_lt hlt3)).far ⟨W3.heap.size, 13, none⟩ (.int .i64 (bnds ⟨a, b, c, d⟩ 2).y1) (Nat.ne_of_lt hlt3))
            have HB : Hid _ := ((((BP.setCell (p := ⟨W3.heap.size, 10, none⟩) hRB (.int .i64 (bnds ⟨a, b, c, d⟩ 2).x0)).setCell (p := ⟨W3.heap.size, 11, none⟩) hRB (.int .i64 (bnds ⟨a, b, c, d⟩ 2).y0)).setCell (p := ⟨W3.heap.size, 12, none⟩) hRB (.int .i64 (bnds ⟨a, b, c, d⟩ 2).x1)).setCell (p := ⟨W3.heap.size, 13, none⟩) hRB (.int .i64 (bnds ⟨a, b, c, d⟩ 2).y1))
            clear p0 p1 BP
            go_wp2
            go_roundw
            case rel => exact ⟨3, by decide, by go_num, H0.out, H1.out, HB.out⟩
            case measure => simp [intOf]
          · have q0 : wr.cell? ⟨w3.heap.size, 12, none⟩ = some (.int .i64 (bnds ⟨a, b, c, d⟩ 3).x0) := p0.cell 12 _ (by rw [HA.out]; rfl)
            have q1 : wr.cell? ⟨w3.heap.size, 13, none⟩ = some (.int .i64 (bnds ⟨a, b, c, d⟩ 3).y0) := p0.cell 13 _ (by rw [HA.out]; rfl)
            have q2 : wr.cell? ⟨w3.heap.size, 14, none⟩ = some (.int .i64 (bnds ⟨a, b, c, d⟩ 3).x1) := p0.cell 14 _ (by rw [HA.out]; rfl)
            have q3 : wr.cell? ⟨w3.heap.size, 15, none⟩ = some (.int .i64 (bnds ⟨a, b, c, d⟩ 3).y1) := p0.cell 15 _ (by rw [HA.out]; rfl)
            have x0 := p1.cell 15 _ rfl
            have x1 := p1.cell 16 _ rfl
            have x2 := p1.cell 17 _ rfl
            have x3 := p1.cell 18 _ rfl
            have f0 := p1.free 15
            have f1 := p1.free 16
            have f2 := p1.free 17
            have f3 := p1.free 18
            have H1 : Hid _ := blkP_rect (bnds ⟨a, b, c, d⟩) _ 3 (by decide) p1
            have H0 : Hid _ := ((((p0.far ⟨W3.heap.size, 15, none⟩ (.int .i64 (bnds ⟨a, b, c, d⟩ 3).x0) (Nat.ne_of_lt hlt3)).far ⟨W3.heap.size, 16, none⟩ (.int .i64 (bnds ⟨a, b, c, d⟩ 3).y0) (Nat.ne_of_lt hlt3)).far ⟨W3.heap.size, 17, none⟩ (.int .i64 (bnds ⟨a, b, c, d⟩ 3).x1) (Nat.ne_of_lt hlt3)).far ⟨W3.heap.size, 18, none⟩ (.int .i64 (bnds ⟨a, b, c, d⟩ 3).y1) (Nat.ne_of_lt hlt3))
            have HB : Hid _ := ((((BP.setCell (p := ⟨W3.heap.size, 15, none⟩) hRB (.int .i64 (bnds ⟨a, b, c, d⟩ 3).x0)).setCell (p := ⟨W3.heap.size, 16, none⟩) hRB (.int .i64 (bnds ⟨a, b, c, d⟩ 3).y0)).setCell (p := ⟨W3.heap.size, 17, none⟩) hRB (.int .i64 (bnds ⟨a, b, c, d⟩ 3).x1)).setCell (p := ⟨W3.heap.size, 18, none⟩) hRB (.int .i64 (bnds ⟨a, b, c, d⟩ 3).y1))
            clear p0 p1 BP
            go_wp2
            go_roundw
            case rel => exact ⟨4, by decide, by go_num, H0.out, H1.out, HB.out⟩
            case measure => simp [intOf]
        · obtain rfl : k = 4 := Nat.le_antisymm hk4 (Nat.le_of_not_lt hlt)
          obtain ⟨W4, rfl⟩ : ∃ W4, W4 = wr := ⟨_, rfl⟩
          clear hk4 hlt
          obtain ⟨P, hP⟩ : ∃ P, P = Ex.cutR n' l y := ⟨_, rfl⟩
          have hPl : P.length = y := by rw [hP]; exact HCl.out
          have hPw : Ex.Wide n' P := hP ▸ hCw
          obtain ⟨D0, hD0⟩ : ∃ L, L = (Ex.lowC b kn (Ex.cntE a n') (Ex.lowR a kn P)).flatten := ⟨_, rfl⟩
          obtain ⟨D1, hD1⟩ : ∃ L, L = (Ex.lowC b kn (Ex.cntO a n') (Ex.highR a kn P)).flatten := ⟨_, rfl⟩
          obtain ⟨D2, hD2⟩ : ∃ L, L = (Ex.highC b kn (Ex.cntE a n') (Ex.lowR a kn P)).flatten := ⟨_, rfl⟩
          obtain ⟨D3, hD3⟩ : ∃ L, L = (Ex.highC b kn (Ex.cntO a n') (Ex.highR a kn P)).flatten := ⟨_, rfl⟩
          have HDs : Hid (D0 = (bandQ a b kn n' (Ex.cutR n' l y) 0).flatten ∧ D1 = (bandQ a b kn n' (Ex.cutR n' l y) 1).flatten ∧ D2 = (bandQ a b kn n' (Ex.cutR n' l y) 2).flatten ∧ D3 = (bandQ a b kn n' (Ex.cutR n' l y) 3).flatten) := by
            rw [← hP]
            exact ⟨hD0, hD1, hD2, hD3⟩
          have ck := Ex.cnt_le (s := a) (n := n')
          obtain ⟨ww1, ww2⟩ := cntO_bd hv hn n4
          have eL : o1 = (Ex.lowR a kn P).flatten := by rw [hP]; exact HL.out
          have eR : o2 = (Ex.highR a kn P).flatten := by rw [hP]; exact HR.out
          have cL := fun (W : World) (hq : HoldsI W s1 o1) => cols_r (Ex.lowR a kn P) (Ex.cntE a n') b kn s1 m1 o1.length y W (by rw [eL]) (by rw [Ex.lowR, List.length_map, hPl]) (Ex.lowR_wide hPw) (Nat.le_trans ck.1 n4) h4 hk b0 b1 (eL ▸ within_mono hwr.1 (by decide)) (eL ▸ hq)
          have cR := fun (W : World) (hq : HoldsI W s2 o2) => cols_r (Ex.highR a kn P) (Ex.cntO a n') b kn s2 m2 o2.length y W (by rw [eR]) (by rw [Ex.highR, List.length_map, hPl]) (Ex.highR_wide hPw) (Nat.le_trans ck.2 n4) h4 hk b0 b1 (eR ▸ within_mono hwr.2 (by decide)) (eR ▸ hq)
          rw [← hD0, ← hD2] at cL
          rw [← hD1, ← hD3] at cR
          clear hD0 hD1 hD2 hD3 hP hPl hPw eL eR ck HL HR HCl hwr hCw
          have q02 : W4.cell? ⟨w3.heap.size, 2, none⟩ = some (.int .i64 (bnds ⟨a, b, c, d⟩ 0).x1) := p0.cell 2 _ (by rw [HA.out]; rfl)
          have q00 : W4.cell? ⟨w3.heap.size, 0, none⟩ = some (.int .i64 (bnds ⟨a, b, c, d⟩ 0).x0) := p0.cell 0 _ (by rw [HA.out]; rfl)
          have yb := (g0.below BP).cell 1 _ rfl
          go_wp2_with fail
          refine (cL W4 (l1.below BP (Nat.le_refl _))).mono ?_
          rintro e w5 ⟨v1, v2, rfl, G1, G2⟩
          obtain ⟨t0, k0, rfl, a0', c0', d0', f0'⟩ := G1.holds
          obtain ⟨t2, k2, rfl, a2', c2', d2', f2'⟩ := G2.holds
          have B5 := below_call BP G1.below
          have p15 := p1.below G1.below
          have p05 := p0.below G1.below
          have e4 := p15.cell 4 _ rfl
          have e14 := p15.cell 14 _ rfl
          have z4 := p15.free 4
          have z14 := p15.free 14
          have hB4 : W3.heap.size < W4.heap.size := p1.lt
          have hS0B : w.heap.size ≠ W3.heap.size := Nat.ne_of_lt (Nat.lt_of_lt_of_le g0.lt hRB)
          have hS1B : (w.heap.size + 1) ≠ W3.heap.size := Nat.ne_of_lt (Nat.lt_of_lt_of_le g1.lt hRB)
          clear q02 q00 yb cL l1 G1 G2
          go_upto_region 22 with fail
          obtain ⟨W6, hW6⟩ : ∃ W6, W6 = (w5.setCell ⟨W3.heap.size, 4, none⟩ (.slice t0 D0.length k0)).setCell ⟨W3.heap.size, 14, none⟩ (.slice t2 D2.length k2) := ⟨_, rfl⟩
          have p16 : Blk W6 W3.heap.size 27 (arrP (upK (bnds ⟨a, b, c, d⟩) 4) (fun i => if i = 2 then (.slice t2 D2.length k2) else if i = 0 then (.slice t0 D0.length k0) else .slice none 0 0)) := by rw [hW6]; exact blkP_data (blkP_data p15 0 (by decide) (.slice t0 D0.length k0)) 2 (by decide) (.slice t2 D2.length k2)
          have r06 : Blk W6 w3.heap.size 84 A := by rw [hW6]; exact (p05.far _ _ (Nat.ne_of_lt hlt3)).far _ _ (Nat.ne_of_lt hlt3)
          have g06 : Blk W6 w.heap.size 26 #[.int .i64 a, .int .i64 b, .int .i64 c, .int .i64 d, .slice s l.length m] := by rw [hW6]; exact ((g0.below B5).far _ _ hS0B).far _ _ hS0B
          have B6 : Below W2.heap.size W2 W6 := by rw [hW6]; exact (B5.setCell (p := ⟨W3.heap.size, 4, none⟩) hRB _).setCell (p := ⟨W3.heap.size, 14, none⟩) hRB _
          have x0 : HoldsI W6 t0 D0 := by rw [hW6]; exact (a0'.farW f0' hB4 _).farW f0' hB4 _
          have x2 : HoldsI W6 t2 D2 := by rw [hW6]; exact (a2'.farW f2' hB4 _).farW f2' hB4 _
          rw [← hW6]
          clear hW6 p15 p05 e4 e14 z4 z14 a0' a2' g0
          have hB6 : W3.heap.size < W6.heap.size := p16.lt
          have q02 : W6.cell? ⟨w3.heap.size, 6, none⟩ = some (.int .i64 (bnds ⟨a, b, c, d⟩ 1).x1) := r06.cell 6 _ (by rw [HA.out]; rfl)
          have q00 : W6.cell? ⟨w3.heap.size, 4, none⟩ = some (.int .i64 (bnds ⟨a, b, c, d⟩ 1).x0) := r06.cell 4 _ (by rw [HA.out]; rfl)
          have yb := g06.cell 1 _ rfl
          go_wp2_with fail
          refine (cR W6 (l2.below B6 (Nat.le_refl _))).mono ?_
          rintro e w7 ⟨v1, v3, rfl, G1, G2⟩
          obtain ⟨t1, k1, rfl, a1', c1', d1', f1'⟩ := G1.holds
          obtain ⟨t3, k3, rfl, a3', c3', d3', f3'⟩ := G2.holds
          have B7 := below_call B6 G1.below
          have p17 := p16.below G1.below
          have e9 := p17.cell 9 _ rfl
          have e19 := p17.cell 19 _ rfl
          have z9 := p17.free 9
          have z19 := p17.free 19
          have HG1 : Hid _ := G1.below
          clear q02 q00 yb cR l2 G1 G2
          go_upto_region 23 with fail
          obtain ⟨W8, hW8⟩ : ∃ W8, W8 = (w7.setCell ⟨W3.heap.size, 9, none⟩ (.slice t1 D1.length k1)).setCell ⟨W3.heap.size, 19, none⟩ (.slice t3 D3.length k3) := ⟨_, rfl⟩
          have p18 : Blk W8 W3.heap.size 27 (arrP (upK (bnds ⟨a, b, c, d⟩) 4) (fun i => if i = 3 then (.slice t3 D3.length k3) else if i = 1 then (.slice t1 D1.length k1) else if i = 2 then (.slice t2 D2.length k2) else if i = 0 then (.slice t0 D0.length k0) else .slice none 0 0)) := by rw [hW8]; exact blkP_data (blkP_data p17 1 (by decide) (.slice t1 D1.length k1)) 3 (by decide) (.slice t3 D3.length k3)
          have g18 : Blk W8 (w.heap.size + 1) 27 (arrP (fun _ => zR) fun _ => .slice none 0 0) := by rw [hW8]; exact ((g1.below B7).far _ _ hS1B).far _ _ hS1B
          have B8 : Below W2.heap.size W2 W8 := by rw [hW8]; exact (B7.setCell (p := ⟨W3.heap.size, 9, none⟩) hRB _).setCell (p := ⟨W3.heap.size, 19, none⟩) hRB _
          have s0 : HoldsI W8 t0 D0 := by rw [hW8]; exact ((x0.call HG1.out).farW f0' hB4 _).farW f0' hB4 _
          have s2' : HoldsI W8 t2 D2 := by rw [hW8]; exact ((x2.call HG1.out).farW f2' hB4 _).farW f2' hB4 _
          have s1' : HoldsI W8 t1 D1 := by rw [hW8]; exact (a1'.farW f1' hB6 _).farW f1' hB6 _
          have s3' : HoldsI W8 t3 D3 := by rw [hW8]; exact (a3'.farW f3' hB6 _).farW f3' hB6 _
          rw [← hW8]
          clear hW8 p17 e9 e19 z9 z19 a1' a3' x0 x2
          obtain ⟨Vf, hVf⟩ : ∃ Vf : Array Value, Vf = arrP (bnds ⟨a, b, c, d⟩) (fun o => if o = 0 then (.slice t0 D0.length k0) else if o = 1 then (.slice t1 D1.length k1) else if o = 2 then (.slice t2 D2.length k2) else (.slice t3 D3.length k3)) := ⟨_, rfl⟩
          have p19 : Blk W8 W3.heap.size 27 Vf := by
            rw [hVf]
            have e : arrP (bnds ⟨a, b, c, d⟩) (fun o => if o = 0 then (.slice t0 D0.length k0) else if o = 1 then (.slice t1 D1.length k1) else if o = 2 then (.slice t2 D2.length k2) else (.slice t3 D3.length k3)) = arrP (upK (bnds ⟨a, b, c, d⟩) 4) (fun i => if i = 3 then (.slice t3 D3.length k3) else if i = 1 then (.slice t1 D1.length k1) else if i = 2 then (.slice t2 D2.length k2) else if i = 0 then (.slice t0 D0.length k0) else .slice none 0 0) := by simp [arrP_get, upK]
            rw [e]
            exact p18
          have hV20 : (Try.prog.info? 27).map (·.size) = some Vf.size := by rw [hVf]; exact info20
          have hVo : Vf.all (·.oneCell') = true := by rw [hVf]; simp [arrP_get, Value.oneCell']
          have HVz : Hid ((arrP (fun _ => zR) fun _ => .slice none 0 0).size = Vf.size) := by rw [hVf]; exact rfl
          have HVf : Hid _ := hVf
          clear p18 hVf
          have BT : Below w.heap.size w W8 := below_call BW2 B8
          have Hs0 : Hid _ := s0
          have Hs1 : Hid _ := s1'
          have Hs2 : Hid _ := s2'
          have Hs3 : Hid _ := s3'
          clear s0 s1' s2' s3'
          go_wp2_with (first | (refine wpList_load_mid rfl 27 (.tmp 15) rfl W3.heap.size 0 rfl Vf.toList _ p19.range Try.underlying27 rfl (by simpa using hV20) ?_) | (refine wpList_store_row rfl 27 (.tmp 4) (.tmp 131) rfl (w.heap.size + 1) Vf rfl rfl 27 _ g18 hV20 HVz.out hVo ?_))
          have hld := run_loadVar_mid (P := Try.prog) (W8.setRow (w.heap.size + 1) Vf) (w.heap.size + 1) 0 27 Vf.toList _ (Blk.range (g18.row Vf)) Try.underlying27 rfl (by simpa using hV20)
          refine bodyPost_ret (v := .tuple #[.agg Vf, .int .i64 0]) ?_ rfl ?_
          · rw [results_cell_tmp rfl]
            simp [asAddr, Result.andThen, hld]
          · obtain ⟨e0, e1, e2, e3⟩ := HDs.out
            subst e0 e1 e2 e3
            refine ⟨fun o => if o = 0 then t0 else if o = 1 then t1 else if o = 2 then t2 else t3, fun o => if o = 0 then k0 else if o = 1 then k1 else if o = 2 then k2 else k3, ?_, ?_, below_row BT (Nat.le_succ _) _⟩
            · rw [HVf.out]
              rfl
            · have u4 : (w.heap.size + 1) < W4.heap.size := Nat.lt_of_lt_of_le g1.lt BP.size
              have u6 : (w.heap.size + 1) < W6.heap.size := Nat.lt_of_lt_of_le g1.lt B6.size
              intro o ho
              rcases lt4 ho with rfl | rfl | rfl | rfl
              · exact ⟨HoldsI.rowW Hs0.out f0' u4 _, c0', d0', f0'.up (below_call BW2 BP)⟩
              · exact ⟨HoldsI.rowW Hs1.out f1' u6 _, c1', d1', f1'.up (below_call BW2 B6)⟩
              · exact ⟨HoldsI.rowW Hs2.out f2' u4 _, c2', d2', f2'.up (below_call BW2 BP)⟩
              · exact ⟨HoldsI.rowW Hs3.out f3' u6 _, c3', d3', f3'.up (below_call BW2 B6)⟩
end Go.Proofs.Ytoplgnckdmkaoaa

namespace Go.Proofs.Ytoplgnckdmkaoaa
open Go.RowKit

set_option maxRecDepth 100000 in
set_option maxHeartbeats 4000000 in
theorem split5_no1 (a b c d kn : Int) (l : List Int) (s : Option Addr) (m : Nat) (w : World) (hp : pvB a b c d l.length = false) :
    Calls Try.prog 89 #[.agg #[.int .i64 a, .int .i64 b, .int .i64 c, .int .i64 d, .slice s l.length m], .int .i64 kn] w (GivesP4 (fun _ => zR) (fun _ => []) 1 w) := by
  have x0 := (Blk.fresh w 26 #[.int .i64 a, .int .i64 b, .int .i64 c, .int .i64 d, .slice s l.length m]).alloc (.cells (arrP (fun _ => zR) fun _ => .slice none 0 0) 27)
  have x1 := Blk.freshAt (w.alloc (.cells #[.int .i64 a, .int .i64 b, .int .i64 c, .int .i64 d, .slice s l.length m] 26)) (w.heap.size + 1) (by simp) 27 (arrP (fun _ => zR) fun _ => .slice none 0 0)
  have B := below_alloc (below_alloc (Below.refl _ w) (.cells #[.int .i64 a, .int .i64 b, .int .i64 c, .int .i64 d, .slice s l.length m] 26)) (.cells (arrP (fun _ => zR) fun _ => .slice none 0 0) 27)
  go_enter Try.func89, Try.ntmps89
  go_wp2_with fail
  refine (pv_r _ _ _ _ _ _ _ _).mono ?_
  rintro e wa ⟨rfl, hb⟩
  replace x0 := x0.below hb
  replace x1 := x1.below hb
  replace B := below_call B hb
  clear hb
  have y4 := x0.cell 4 _ rfl
  go_wp2_with (first | (refine wpList_store_row rfl 27 (.tmp 4) (.tmp 20) rfl (w.heap.size + 1) #[.int .i64 0, .int .i64 0, .int .i64 0, .int .i64 0, .slice none 0 0, .int .i64 0, .int .i64 0, .int .i64 0, .int .i64 0, .slice none 0 0, .int .i64 0, .int .i64 0, .int .i64 0, .int .i64 0, .slice none 0 0, .int .i64 0, .int .i64 0, .int .i64 0, .int .i64 0, .slice none 0 0] rfl rfl 27 _ x1 info20 rfl (by simp [Value.oneCell']) ?_))
  have g1 : Blk (wa.setRow (w.heap.size + 1) #[.int .i64 0, .int .i64 0, .int .i64 0, .int .i64 0, .slice none 0 0, .int .i64 0, .int .i64 0, .int .i64 0, .int .i64 0, .slice none 0 0, .int .i64 0, .int .i64 0, .int .i64 0, .int .i64 0, .slice none 0 0, .int .i64 0, .int .i64 0, .int .i64 0, .int .i64 0, .slice none 0 0]) (w.heap.size + 1) 27 #[.int .i64 0, .int .i64 0, .int .i64 0, .int .i64 0, .slice none 0 0, .int .i64 0, .int .i64 0, .int .i64 0, .int .i64 0, .slice none 0 0, .int .i64 0, .int .i64 0, .int .i64 0, .int .i64 0, .slice none 0 0, .int .i64 0, .int .i64 0, .int .i64 0, .int .i64 0, .slice none 0 0] := x1.row _
  have hld := run_loadVar_mid (P := Try.prog) (wa.setRow (w.heap.size + 1) #[.int .i64 0, .int .i64 0, .int .i64 0, .int .i64 0, .slice none 0 0, .int .i64 0, .int .i64 0, .int .i64 0, .int .i64 0, .slice none 0 0, .int .i64 0, .int .i64 0, .int .i64 0, .int .i64 0, .slice none 0 0, .int .i64 0, .int .i64 0, .int .i64 0, .int .i64 0, .slice none 0 0]) (w.heap.size + 1) 0 27 (Array.toList #[.int .i64 0, .int .i64 0, .int .i64 0, .int .i64 0, .slice none 0 0, .int .i64 0, .int .i64 0, .int .i64 0, .int .i64 0, .slice none 0 0, .int .i64 0, .int .i64 0, .int .i64 0, .int .i64 0, .slice none 0 0, .int .i64 0, .int .i64 0, .int .i64 0, .int .i64 0, .slice none 0 0]) _ g1.range Try.underlying27 rfl info20
  refine bodyPost_ret (v := .tuple #[.agg #[.int .i64 0, .int .i64 0, .int .i64 0, .int .i64 0, .slice none 0 0, .int .i64 0, .int .i64 0, .int .i64 0, .int .i64 0, .slice none 0 0, .int .i64 0, .int .i64 0, .int .i64 0, .int .i64 0, .slice none 0 0, .int .i64 0, .int .i64 0, .int .i64 0, .int .i64 0, .slice none 0 0], .int .i64 1]) ?_ rfl ⟨fun _ => none, fun _ => 0, rfl, fun o _ => ⟨.inl rfl, Nat.le_refl _, fun _ => rfl, fresh_none _⟩, below_row B (Nat.le_succ _) _⟩
  rw [results_cell_tmp rfl]
  simp [asAddr, Result.andThen, hld]
set_option maxRecDepth 100000 in
set_option maxHeartbeats 4000000 in
theorem split5_no2 (a b c d kn : Int) (l : List Int) (s : Option Addr) (m : Nat) (w : World) (hp : pvB a b c d l.length = true) (hk : kB kn = false) :
    Calls Try.prog 89 #[.agg #[.int .i64 a, .int .i64 b, .int .i64 c, .int .i64 d, .slice s l.length m], .int .i64 kn] w (GivesP4 (fun _ => zR) (fun _ => []) 3 w) := by
  have x0 := (Blk.fresh w 26 #[.int .i64 a, .int .i64 b, .int .i64 c, .int .i64 d, .slice s l.length m]).alloc (.cells (arrP (fun _ => zR) fun _ => .slice none 0 0) 27)
  have x1 := Blk.freshAt (w.alloc (.cells #[.int .i64 a, .int .i64 b, .int .i64 c, .int .i64 d, .slice s l.length m] 26)) (w.heap.size + 1) (by simp) 27 (arrP (fun _ => zR) fun _ => .slice none 0 0)
  have B := below_alloc (below_alloc (Below.refl _ w) (.cells #[.int .i64 a, .int .i64 b, .int .i64 c, .int .i64 d, .slice s l.length m] 26)) (.cells (arrP (fun _ => zR) fun _ => .slice none 0 0) 27)
  go_enter Try.func89, Try.ntmps89
  go_wp2_with fail
  refine (pv_r _ _ _ _ _ _ _ _).mono ?_
  rintro e wa ⟨rfl, hb⟩
  replace x0 := x0.below hb
  replace x1 := x1.below hb
  replace B := below_call B hb
  clear hb
  have y4 := x0.cell 4 _ rfl
  go_wp2_with (first | (go_at_call 69; refine ((kn5_r _ _).mono fun _ _ x => (⟨x.1, x.2.symm⟩ : _ ∧ _)).mono ?_; rintro e wn ⟨rfl, rfl⟩) | (refine wpList_store_row rfl 27 (.tmp 4) (.tmp 24) rfl (w.heap.size + 1) #[.int .i64 0, .int .i64 0, .int .i64 0, .int .i64 0, .slice none 0 0, .int .i64 0, .int .i64 0, .int .i64 0, .int .i64 0, .slice none 0 0, .int .i64 0, .int .i64 0, .int .i64 0, .int .i64 0, .slice none 0 0, .int .i64 0, .int .i64 0, .int .i64 0, .int .i64 0, .slice none 0 0] rfl rfl 27 _ x1 info20 rfl (by simp [Value.oneCell']) ?_))
  have g1 : Blk (wa.setRow (w.heap.size + 1) #[.int .i64 0, .int .i64 0, .int .i64 0, .int .i64 0, .slice none 0 0, .int .i64 0, .int .i64 0, .int .i64 0, .int .i64 0, .slice none 0 0, .int .i64 0, .int .i64 0, .int .i64 0, .int .i64 0, .slice none 0 0, .int .i64 0, .int .i64 0, .int .i64 0, .int .i64 0, .slice none 0 0]) (w.heap.size + 1) 27 #[.int .i64 0, .int .i64 0, .int .i64 0, .int .i64 0, .slice none 0 0, .int .i64 0, .int .i64 0, .int .i64 0, .int .i64 0, .slice none 0 0, .int .i64 0, .int .i64 0, .int .i64 0, .int .i64 0, .slice none 0 0, .int .i64 0, .int .i64 0, .int .i64 0, .int .i64 0, .slice none 0 0] := x1.row _
  have hld := run_loadVar_mid (P := Try.prog) (wa.setRow (w.heap.size + 1) #[.int .i64 0, .int .i64 0, .int .i64 0, .int .i64 0, .slice none 0 0, .int .i64 0, .int .i64 0, .int .i64 0, .int .i64 0, .slice none 0 0, .int .i64 0, .int .i64 0, .int .i64 0, .int .i64 0, .slice none 0 0, .int .i64 0, .int .i64 0, .int .i64 0, .int .i64 0, .slice none 0 0]) (w.heap.size + 1) 0 27 (Array.toList #[.int .i64 0, .int .i64 0, .int .i64 0, .int .i64 0, .slice none 0 0, .int .i64 0, .int .i64 0, .int .i64 0, .int .i64 0, .slice none 0 0, .int .i64 0, .int .i64 0, .int .i64 0, .int .i64 0, .slice none 0 0, .int .i64 0, .int .i64 0, .int .i64 0, .int .i64 0, .slice none 0 0]) _ g1.range Try.underlying27 rfl info20
  refine bodyPost_ret (v := .tuple #[.agg #[.int .i64 0, .int .i64 0, .int .i64 0, .int .i64 0, .slice none 0 0, .int .i64 0, .int .i64 0, .int .i64 0, .int .i64 0, .slice none 0 0, .int .i64 0, .int .i64 0, .int .i64 0, .int .i64 0, .slice none 0 0, .int .i64 0, .int .i64 0, .int .i64 0, .int .i64 0, .slice none 0 0], .int .i64 3]) ?_ rfl ⟨fun _ => none, fun _ => 0, rfl, fun o _ => ⟨.inl rfl, Nat.le_refl _, fun _ => rfl, fresh_none _⟩, below_row B (Nat.le_succ _) _⟩
  rw [results_cell_tmp rfl]
  simp [asAddr, Result.andThen, hld]
set_option maxRecDepth 100000 in
set_option maxHeartbeats 4000000 in
theorem split5_no3 (a b c d kn : Int) (l : List Int) (s : Option Addr) (m : Nat) (w : World) (hp : pvB a b c d l.length = true) (hk : kB kn = true) (hf : fewB l 35184372088832 = false) (hl : l.length ≤ 140737488351232) (hH : HoldsI w s l) :
    Calls Try.prog 89 #[.agg #[.int .i64 a, .int .i64 b, .int .i64 c, .int .i64 d, .slice s l.length m], .int .i64 kn] w (GivesP4 (fun _ => zR) (fun _ => []) 2 w) := by
  have x0 := (Blk.fresh w 26 #[.int .i64 a, .int .i64 b, .int .i64 c, .int .i64 d, .slice s l.length m]).alloc (.cells (arrP (fun _ => zR) fun _ => .slice none 0 0) 27)
  have x1 := Blk.freshAt (w.alloc (.cells #[.int .i64 a, .int .i64 b, .int .i64 c, .int .i64 d, .slice s l.length m] 26)) (w.heap.size + 1) (by simp) 27 (arrP (fun _ => zR) fun _ => .slice none 0 0)
  have B := below_alloc (below_alloc (Below.refl _ w) (.cells #[.int .i64 a, .int .i64 b, .int .i64 c, .int .i64 d, .slice s l.length m] 26)) (.cells (arrP (fun _ => zR) fun _ => .slice none 0 0) 27)
  have lH := (hH.alloc (.cells #[.int .i64 a, .int .i64 b, .int .i64 c, .int .i64 d, .slice s l.length m] 26)).alloc (.cells (arrP (fun _ => zR) fun _ => .slice none 0 0) 27)
  go_enter Try.func89, Try.ntmps89
  go_wp2_with fail
  refine (pv_r _ _ _ _ _ _ _ _).mono ?_
  rintro e wa ⟨rfl, hb⟩
  replace x0 := x0.below hb
  replace x1 := x1.below hb
  replace B := below_call B hb
  have cA := (abv_r l 35184372088832 s m wa (by decide) (by decide) hl (lH.call hb)).mono fun _ _ x => (⟨x.1, x.2.symm⟩ : _ ∧ wa = _)
  rw [hf] at cA
  clear hf lH
  clear hb
  have y4 := x0.cell 4 _ rfl
  go_wp2_with (first | (go_at_call 69; refine ((kn5_r _ _).mono fun _ _ x => (⟨x.1, x.2.symm⟩ : _ ∧ _)).mono ?_; rintro e wn ⟨rfl, rfl⟩) | (go_at_call 72; (with_reducible refine cA.mono ?_); rintro e wn ⟨rfl, rfl⟩) | (refine wpList_store_row rfl 27 (.tmp 4) (.tmp 28) rfl (w.heap.size + 1) #[.int .i64 0, .int .i64 0, .int .i64 0, .int .i64 0, .slice none 0 0, .int .i64 0, .int .i64 0, .int .i64 0, .int .i64 0, .slice none 0 0, .int .i64 0, .int .i64 0, .int .i64 0, .int .i64 0, .slice none 0 0, .int .i64 0, .int .i64 0, .int .i64 0, .int .i64 0, .slice none 0 0] rfl rfl 27 _ x1 info20 rfl (by simp [Value.oneCell']) ?_))
  have g1 : Blk (wa.setRow (w.heap.size + 1) #[.int .i64 0, .int .i64 0, .int .i64 0, .int .i64 0, .slice none 0 0, .int .i64 0, .int .i64 0, .int .i64 0, .int .i64 0, .slice none 0 0, .int .i64 0, .int .i64 0, .int .i64 0, .int .i64 0, .slice none 0 0, .int .i64 0, .int .i64 0, .int .i64 0, .int .i64 0, .slice none 0 0]) (w.heap.size + 1) 27 #[.int .i64 0, .int .i64 0, .int .i64 0, .int .i64 0, .slice none 0 0, .int .i64 0, .int .i64 0, .int .i64 0, .int .i64 0, .slice none 0 0, .int .i64 0, .int .i64 0, .int .i64 0, .int .i64 0, .slice none 0 0, .int .i64 0, .int .i64 0, .int .i64 0, .int .i64 0, .slice none 0 0] := x1.row _
  have hld := run_loadVar_mid (P := Try.prog) (wa.setRow (w.heap.size + 1) #[.int .i64 0, .int .i64 0, .int .i64 0, .int .i64 0, .slice none 0 0, .int .i64 0, .int .i64 0, .int .i64 0, .int .i64 0, .slice none 0 0, .int .i64 0, .int .i64 0, .int .i64 0, .int .i64 0, .slice none 0 0, .int .i64 0, .int .i64 0, .int .i64 0, .int .i64 0, .slice none 0 0]) (w.heap.size + 1) 0 27 (Array.toList #[.int .i64 0, .int .i64 0, .int .i64 0, .int .i64 0, .slice none 0 0, .int .i64 0, .int .i64 0, .int .i64 0, .int .i64 0, .slice none 0 0, .int .i64 0, .int .i64 0, .int .i64 0, .int .i64 0, .slice none 0 0, .int .i64 0, .int .i64 0, .int .i64 0, .int .i64 0, .slice none 0 0]) _ g1.range Try.underlying27 rfl info20
  refine bodyPost_ret (v := .tuple #[.agg #[.int .i64 0, .int .i64 0, .int .i64 0, .int .i64 0, .slice none 0 0, .int .i64 0, .int .i64 0, .int .i64 0, .int .i64 0, .slice none 0 0, .int .i64 0, .int .i64 0, .int .i64 0, .int .i64 0, .slice none 0 0, .int .i64 0, .int .i64 0, .int .i64 0, .int .i64 0, .slice none 0 0], .int .i64 2]) ?_ rfl ⟨fun _ => none, fun _ => 0, rfl, fun o _ => ⟨.inl rfl, Nat.le_refl _, fun _ => rfl, fresh_none _⟩, below_row B (Nat.le_succ _) _⟩
  rw [results_cell_tmp rfl]
  simp [asAddr, Result.andThen, hld]
end Go.Proofs.Ytoplgnckdmkaoaa

namespace Go.Proofs.Ytoplgnckdmkaoaa
open Go.RowKit

/-- One list of slices of the call's own, as two of which the other is nothing. -/
theorem c2_one {w W : World} (h : Below w.heap.size w W) (N : Nat) (hN : N = W.heap.size) : C2 w (W.alloc (.cells #[] 24)) (.slice (some ⟨N, 0, none⟩) 0 0) (.slice none 0 0) [] [] [] [] := by
  subst hN
  refine ⟨below_alloc h _, ?_, World.ownsRow_nil _ _ _ _, fun g _ b => by simp [Value.ownBlock] at b, ⟨rfl, fun k a => absurd a (Nat.not_lt_zero _)⟩, ⟨rfl, fun k a => absurd a (Nat.not_lt_zero _)⟩⟩
  have hs := h.size
  exact ⟨rfl, .inr ⟨W.heap.size, 0, #[], rfl, hs, heap_alloc_new W _, Nat.zero_le _, Nat.zero_le _, rfl, by simp⟩⟩
theorem stride {y n x h : Nat} (hx : x < n) (hy : y ≤ h) : (y * n + x < h * n ↔ y < h) ∧ (y + 1) * n + x = y * n + x + n := by
  refine ⟨⟨fun h1 => ?_, fun h1 => ?_⟩, by rw [Nat.add_mul, Nat.one_mul]; omega⟩
  · refine Classical.byContradiction fun h2 => ?_
    obtain rfl : y = h := by omega
    omega
  · have : (y + 1) * n ≤ h * n := Nat.mul_le_mul_right _ h1
    rw [Nat.add_mul, Nat.one_mul] at this
    omega
/-- The place of the next number of a column. -/
theorem stride_w {p n : Nat} (hp : p ≤ 16781312) (hn : n ≤ 4096) : IntKind.i64.wrap ((p : Int) + (n : Int)) = ((p + n : Nat) : Int) := by rw [IntWalk.i64_in _ (by omega)]; omega
def colA (A : List (List Int)) (x : Nat) : List Int := A.map fun r => r.getD x 0
theorem col_get {A : List (List Int)} {n x y : Nat} (hA : Ex.Wide n A) (hx : x < n) (hy : y < A.length) : ∃ (h1 : y * n + x < A.flatten.length) (h2 : y < (colA A x).length), A.flatten[y * n + x] = (colA A x)[y] := by
  obtain ⟨h1, h2⟩ := List.getElem?_eq_some_iff.1 (Ex.flat_get hA hy hx)
  exact ⟨h1, by simp [colA]; exact hy, by rw [h2]; simp [colA]⟩
theorem col_within {A : List (List Int)} {n x : Nat} {b : Int} (hA : Ex.Wide n A) (hx : x < n) (hw : Ex.within b A.flatten) : Ex.within b (colA A x) := fun v hv => by
  obtain ⟨y, hy, rfl⟩ := List.getElem_of_mem hv
  obtain ⟨h1, _, h3⟩ := col_get hA hx (by simpa [colA] using hy)
  rw [← h3]
  exact hw _ (List.getElem_mem h1)
theorem inv_n (e o : List Int) (st kn : Int) (s t : Option Addr) (m m' a b : Nat) (w : World) (ha : a = e.length) (hb : b = o.length) (hk : kB kn = true) (hh : jnB st e.length o.length = true) (hf1 : Ex.within 281474976710656 e) (hf2 : Ex.within 281474976710656 o) (hc : jcB st e.length o.length = true) (hE : HoldsI w s e) (hO : HoldsI w t o) : Calls Try.prog 74 #[.slice s a m, .slice t b m', .int .i64 st, .int .i64 kn] w (GivesE (Ex.unF st kn e o) 0 w) := by
  subst ha hb
  exact inv_yes e o st kn s t m m' w hk hh (few_iff.2 (within_mono hf1 (by decide))) (few_iff.2 (within_mono hf2 (by decide))) hc hE hO
set_option maxRecDepth 100000 in
set_option maxHeartbeats 4000000 in
theorem rest_r (A B : List (List Int)) (n : Nat) (rA rB : Pl.R) (st kn : Int) (s t : Option Addr) (m m' NA NB : Nat) (w : World) (hNA : NA = A.flatten.length) (hNB : NB = B.flatten.length) (hA : Ex.Wide n A) (hB : Ex.Wide n B) (hw0 : IntKind.i64.wrap (rA.x1 - rA.x0) = (n : Int)) (hn : n ≤ 4096) (hj : jnB st A.length B.length = true) (hc : jcB st A.length B.length = true) (hk : kB kn = true)
    (wA : Ex.within 281474976710656 A.flatten) (wB : Ex.within 281474976710656 B.flatten) (hHA : HoldsI w s A.flatten) (hHB : HoldsI w t B.flatten) :
    Calls Try.prog 73 #[.agg #[.int .i64 rA.x0, .int .i64 rA.y0, .int .i64 rA.x1, .int .i64 rA.y1, .slice s NA m], .agg #[.int .i64 rB.x0, .int .i64 rB.y0, .int .i64 rB.x1, .int .i64 rB.y1, .slice t NB m'], .int .i64 st, .int .i64 kn] w fun e w' => ∃ v, e = .returned v ∧ Gl w v (Ex.unC st kn n A B).flatten w' := by
  obtain ⟨i0, hi, hz0, hz1, hz2⟩ := info_parts infoI
  obtain ⟨i1, gi, gz0, gz1, gz2⟩ := info_parts infoS
  obtain ⟨j1, j2, j3⟩ := jn_iff.1 hj
  have hlA : NA = A.length * n := by rw [hNA]; exact Ex.flat_len hA
  have hlB : NB = B.length * n := by rw [hNB]; exact Ex.flat_len hB
  have HNA : Hid (NA = A.flatten.length ∧ NA = A.length * n) := ⟨hNA, hlA⟩
  have HNB : Hid (NB = B.flatten.length ∧ NB = B.length * n) := ⟨hNB, hlB⟩
  clear hNA hNB hlA hlB
  have x0 := ((Blk.fresh w 26 #[.int .i64 rA.x0, .int .i64 rA.y0, .int .i64 rA.x1, .int .i64 rA.y1, .slice s NA m]).alloc (.cells #[.int .i64 rB.x0, .int .i64 rB.y0, .int .i64 rB.x1, .int .i64 rB.y1, .slice t NB m'] 26)).alloc (.cells #[] 24)
  have x1 := (Blk.freshAt (w.alloc (.cells #[.int .i64 rA.x0, .int .i64 rA.y0, .int .i64 rA.x1, .int .i64 rA.y1, .slice s NA m] 26)) (w.heap.size + 1) (by simp) 26 #[.int .i64 rB.x0, .int .i64 rB.y0, .int .i64 rB.x1, .int .i64 rB.y1, .slice t NB m']).alloc (.cells #[] 24)
  have BW := below_alloc (below_alloc (Below.refl _ w) (.cells #[.int .i64 rA.x0, .int .i64 rA.y0, .int .i64 rA.x1, .int .i64 rA.y1, .slice s NA m] 26)) (.cells #[.int .i64 rB.x0, .int .i64 rB.y0, .int .i64 rB.x1, .int .i64 rB.y1, .slice t NB m'] 26)
  go_enter Try.func73, Try.ntmps73
  go_wp2_with fail
  have HSZ : Hid ((((w.alloc (.cells #[.int .i64 rA.x0, .int .i64 rA.y0, .int .i64 rA.x1, .int .i64 rA.y1, .slice s NA m] 26)).alloc (.cells #[.int .i64 rB.x0, .int .i64 rB.y0, .int .i64 rB.x1, .int .i64 rB.y1, .slice t NB m'] 26))).heap.size = w.heap.size + 1 + 1) := by show (((w.alloc (.cells #[.int .i64 rA.x0, .int .i64 rA.y0, .int .i64 rA.x1, .int .i64 rA.y1, .slice s NA m] 26)).alloc (.cells #[.int .i64 rB.x0, .int .i64 rB.y0, .int .i64 rB.x1, .int .i64 rB.y1, .slice t NB m'] 26))).heap.size = _; simp
  have c0 := c2_one (w := ((w.alloc (.cells #[.int .i64 rA.x0, .int .i64 rA.y0, .int .i64 rA.x1, .int .i64 rA.y1, .slice s NA m] 26)).alloc (.cells #[.int .i64 rB.x0, .int .i64 rB.y0, .int .i64 rB.x1, .int .i64 rB.y1, .slice t NB m'] 26))) (W := ((w.alloc (.cells #[.int .i64 rA.x0, .int .i64 rA.y0, .int .i64 rA.x1, .int .i64 rA.y1, .slice s NA m] 26)).alloc (.cells #[.int .i64 rB.x0, .int .i64 rB.y0, .int .i64 rB.x1, .int .i64 rB.y1, .slice t NB m'] 26))) (Below.refl _ _) (w.heap.size + 1 + 1) (by simp)
  replace hHA := (hHA.alloc (.cells #[.int .i64 rA.x0, .int .i64 rA.y0, .int .i64 rA.x1, .int .i64 rA.y1, .slice s NA m] 26)).alloc (.cells #[.int .i64 rB.x0, .int .i64 rB.y0, .int .i64 rB.x1, .int .i64 rB.y1, .slice t NB m'] 26)
  replace hHB := (hHB.alloc (.cells #[.int .i64 rA.x0, .int .i64 rA.y0, .int .i64 rA.x1, .int .i64 rA.y1, .slice s NA m] 26)).alloc (.cells #[.int .i64 rB.x0, .int .i64 rB.y0, .int .i64 rB.x1, .int .i64 rB.y1, .slice t NB m'] 26)
  have x0' := (Blk.fresh w 26 #[.int .i64 rA.x0, .int .i64 rA.y0, .int .i64 rA.x1, .int .i64 rA.y1, .slice s NA m]).alloc (.cells #[.int .i64 rB.x0, .int .i64 rB.y0, .int .i64 rB.x1, .int .i64 rB.y1, .slice t NB m'] 26)
  have x1' := Blk.freshAt (w.alloc (.cells #[.int .i64 rA.x0, .int .i64 rA.y0, .int .i64 rA.x1, .int .i64 rA.y1, .slice s NA m] 26)) (w.heap.size + 1) (by simp) 26 #[.int .i64 rB.x0, .int .i64 rB.y0, .int .i64 rB.x1, .int .i64 rB.y1, .slice t NB m']
  clear x0 x1
  obtain ⟨Z, hZ⟩ : ∃ Z, Z = List.zipWith (Ex.unF st kn) (Ex.trn n A) (Ex.trn n B) := ⟨_, rfl⟩
  have hZl : Z.length = n := by rw [hZ]; simp [Ex.trn_len]
  have hZg : ∀ x (hx : x < Z.length), Z[x] = Ex.unF st kn (colA A x) (colA B x) := by
    intro x hx
    subst hZ
    simp [Ex.trn, colA]
  have HZ : Hid _ := hZ
  have HZl : Hid _ := hZl
  clear hZ hZl
  go_loopw [10, 11, 12, 13, 14, 15, 16, 17] (fun v i _ _ _ _ _ _ wr => ∃ (x : Nat) (z : Value) (u : List Value) (c : List (List Int)), x ≤ n ∧ i = .int .i64 x ∧ z = v ∧ c = Z.take x ∧ C2 (((w.alloc (.cells #[.int .i64 rA.x0, .int .i64 rA.y0, .int .i64 rA.x1, .int .i64 rA.y1, .slice s NA m] 26)).alloc (.cells #[.int .i64 rB.x0, .int .i64 rB.y0, .int .i64 rB.x1, .int .i64 rB.y1, .slice t NB m'] 26))) wr z (.slice none 0 0) u [] c []) (fun _ i _ _ _ _ _ _ _ => n - (intOf i).toNat)
  case atStart => exact ⟨0, _, [], [], Nat.zero_le _, rfl, rfl, by simp, c0⟩
  case round =>
    obtain ⟨W0, rfl⟩ : ∃ W0, W0 = wr := ⟨_, rfl⟩
    obtain ⟨x, z, u, c, hx, rfl, rfl, hcz, hG⟩ := hrel
    clear c0
    by_cases hlt : x < n
    · have hxi : (x : Int) < (n : Int) := by omega
      have w1 : IntKind.i64.wrap ((x : Int) + 1) = (x : Int) + 1 := IntWalk.i64_in _ (by omega)
      have hxZ : x < Z.length := by rw [HZl.out]; exact hlt
      have hnx := List.take_succ_eq_append_getElem hxZ
      rw [hZg x hxZ, ← hcz] at hnx
      have hul : u.length ≤ 4096 := by rw [hG.e1.1, hcz, List.length_take]; omega
      have HN : Hid _ := hnx
      clear hnx hcz hxZ
      have g0 := x0'.below hG.below
      have g1 := x1'.below hG.below
      have lA := hHA.below hG.below (Nat.le_refl _)
      have lB := hHB.below hG.below (Nat.le_refl _)
      have ga := g2_start (Below.refl W0.heap.size W0)
      go_wp2_with fail
      go_loopw [12, 14] (fun v i wr => ∃ (y p : Nat) (o : List Int) (q : Value), y ≤ A.length ∧ p = y * n + x ∧ i = .int .i64 p ∧ o = (colA A x).take y ∧ q = v ∧ G2 W0 q o (.slice (some ⟨W0.heap.size + 1, 0, none⟩) 0 0) [] wr) (fun _ i _ => NA - (intOf i).toNat)
      case atStart => exact ⟨0, x, [], _, Nat.zero_le _, by simp, rfl, by simp, rfl, ga⟩
      case round =>
        obtain ⟨y, p, o, q, hy, hp, rfl, hO, rfl, hQ⟩ := hrel
        clear ga
        have f0 := g0.below hQ.l1.below
        have y4 := f0.cell 4 _ rfl
        obtain ⟨st1, st2⟩ := stride (h := A.length) hlt hy
        rw [← hp, ← HNA.out.2] at st1
        by_cases hpl : p < NA
        · have hpi : (p : Int) < (NA : Int) := by omega
          have hyA := st1.1 hpl
          obtain ⟨k1, k2, k3⟩ := col_get hA hlt hyA
          rw [show y * n + x = p from hp.symm] at st2
          have hpb : p ≤ 16781312 := by have h1 := mul_4096 (show y ≤ 4096 by omega) hn; omega
          have w2 := stride_w hpb hn
          have htk := List.take_succ_eq_append_getElem k2
          have lAz := lA.below hQ.l1.below (Nat.le_refl _)
          rcases lAz with e0 | ⟨bb, off, rfl, hr⟩
          · rw [e0] at k1; exact absurd k1 (Nat.not_lt_zero _)
          have yv := hr _ k1
          rw [k3, ← hp] at yv
          have hol : o.length ≤ 4096 := by rw [hO, List.length_take]; omega
          have hX0 : o ++ [(colA A x)[y]] = (colA A x).take (y + 1) := by rw [htk, ← hO]
          have HX : Hid _ := hX0
          have HS : Hid _ := st2
          generalize (colA A x)[y] = V at *
          clear hr k1 k2 k3 htk hX0 hO st1 st2 hp hpb
          go_wp2_with (first | (at_builtin; refine wpList_append_own_at _ rfl _ _ 24 rfl W0.heap.size 3 i0 (.int .i64 0) 1 8 Try.underlying24 hi hz0 hz1 hz2 rfl (by decide) _ _ _ rfl (own_below hQ.l1.own ((Below.refl _ _).alloc (Nat.le_refl _) _)) ⟨wr.heap.size, 0, none⟩ 1 1 [.int .i64 V] rfl rfl (one_new wr _ _) (oneOne _) (by unfold maxLen; omega) (by omega) (by have := hQ.l1.below.size; simp; omega) ?_))
          intro v' wz hown hgrow _ hat
          obtain ⟨sv, mv, rfl⟩ := own_slice hown
          have HG : Hid _ := hQ.push _ hgrow hown hat
          clear hown hgrow hat hQ
          go_wp2
          go_roundw
          case rel => exact ⟨y + 1, _, _, _, by omega, HS.out.symm, by go_num, HX.out, rfl, HG.out⟩
          case measure => simp [intOf]; omega
        · have hyA : y = A.length := Nat.le_antisymm hy (Nat.le_of_not_lt fun h => hpl (st1.2 h))
          have hOa : o = colA A x := by rw [hO, List.take_of_length_le (by simp [colA]; omega)]
          subst hOa
          have hQs := hQ.swap
          have hpi : ¬ (p : Int) < (NA : Int) := by omega
          obtain ⟨sa, ma, rfl⟩ := own_slice hQ.l1.own
          clear hO st1 st2 hp hQ hyA
          go_wp2_with fail
          clear y4 f0 hpi
          go_loopw [13, 15] (fun v i wr => ∃ (y p : Nat) (o : List Int) (qb : Value), y ≤ B.length ∧ p = y * n + x ∧ i = .int .i64 p ∧ o = (colA B x).take y ∧ qb = v ∧ G2 W0 qb o (.slice sa (colA A x).length ma) (colA A x) wr) (fun _ i _ => NB - (intOf i).toNat)
          case atStart => exact ⟨0, x, [], _, Nat.zero_le _, by simp, rfl, by simp, rfl, hQs⟩
          case round =>
            obtain ⟨y, p, o, q, hy, hp, rfl, hO, rfl, hQ⟩ := hrel
            clear hQs
            have f0 := g1.below hQ.l1.below
            have y4 := f0.cell 4 _ rfl
            obtain ⟨st1, st2⟩ := stride (h := B.length) hlt hy
            rw [← hp, ← HNB.out.2] at st1
            by_cases hpl : p < NB
            · have hpi : (p : Int) < (NB : Int) := by omega
              have hyA := st1.1 hpl
              obtain ⟨k1, k2, k3⟩ := col_get hB hlt hyA
              rw [show y * n + x = p from hp.symm] at st2
              have hpb : p ≤ 16781312 := by have h1 := mul_4096 (show y ≤ 4096 by omega) hn; omega
              have w2 := stride_w hpb hn
              have htk := List.take_succ_eq_append_getElem k2
              have lAz := lB.below hQ.l1.below (Nat.le_refl _)
              rcases lAz with e0 | ⟨bb, off, rfl, hr⟩
              · rw [e0] at k1; exact absurd k1 (Nat.not_lt_zero _)
              have yv := hr _ k1
              rw [k3, ← hp] at yv
              have hol : o.length ≤ 4096 := by rw [hO, List.length_take]; omega
              have hX0 : o ++ [(colA B x)[y]] = (colA B x).take (y + 1) := by rw [htk, ← hO]
              have HX : Hid _ := hX0
              have HS : Hid _ := st2
              generalize (colA B x)[y] = V at *
              clear hr k1 k2 k3 htk hX0 hO st1 st2 hp hpb
              go_wp2_with (first | (at_builtin; refine wpList_append_own_at _ rfl _ _ 24 rfl W0.heap.size 3 i0 (.int .i64 0) 1 8 Try.underlying24 hi hz0 hz1 hz2 rfl (by decide) _ _ _ rfl (own_below hQ.l1.own ((Below.refl _ _).alloc (Nat.le_refl _) _)) ⟨wr.heap.size, 0, none⟩ 1 1 [.int .i64 V] rfl rfl (one_new wr _ _) (oneOne _) (by unfold maxLen; omega) (by omega) (by have := hQ.l1.below.size; simp; omega) ?_))
              intro v' wz hown hgrow _ hat
              obtain ⟨sv, mv, rfl⟩ := own_slice hown
              have HG : Hid _ := hQ.push _ hgrow hown hat
              clear hown hgrow hat hQ
              go_wp2
              go_roundw
              case rel => exact ⟨y + 1, _, _, _, by omega, HS.out.symm, by go_num, HX.out, rfl, HG.out⟩
              case measure => simp [intOf]; omega
            · have hyA : y = B.length := Nat.le_antisymm hy (Nat.le_of_not_lt fun h => hpl (st1.2 h))
              have hOa : o = colA B x := by rw [hO, List.take_of_length_le (by simp [colA]; omega)]
              subst hOa
              have hpi : ¬ (p : Int) < (NB : Int) := by omega
              obtain ⟨sb, mb, rfl, lb, _⟩ := hQ.l1.holds
              obtain ⟨sa', ma', e9, la, _⟩ := hQ.l2.holds
              obtain ⟨rfl, rfl⟩ : sa = sa' ∧ ma = ma' := by simpa using e9
              have hG1 := hG.step hQ.l1.below
              have cI := inv_n (colA A x) (colA B x) st kn sa sb ma mb _ _ wr rfl rfl hk (by simpa [colA] using hj) (col_within hA hlt wA) (col_within hB hlt wB) (by simpa [colA] using hc) la lb
              clear hO st1 st2 hp hQ hyA e9 la lb
              go_wp2_with fail
              refine cI.mono ?_
              rintro e w3 ⟨s3, m3, rfl, a3, hb, _, _, f3⟩
              have E3 := Elt.fresh (m := m3) hG1.own1 hG1.own2 f3 a3
              have hG2 := hG1.step hb
              clear a3 hb f3 hG1 cI
              go_wp2_with (first | (at_builtin; refine wpList_append_own_at _ rfl _ _ 132 rfl (((w.alloc (.cells #[.int .i64 rA.x0, .int .i64 rA.y0, .int .i64 rA.x1, .int .i64 rA.y1, .slice s NA m] 26)).alloc (.cells #[.int .i64 rB.x0, .int .i64 rB.y0, .int .i64 rB.x1, .int .i64 rB.y1, .slice t NB m'] 26))).heap.size 24 i1 (.slice none 0 0) 1 24 Try.underlying132 gi gz0 gz1 gz2 rfl (by decide) _ _ _ rfl (own_below hG2.own1 ((Below.refl _ _).alloc (Nat.le_refl _) _)) ⟨w3.heap.size, 0, none⟩ 1 1 [.slice s3 (Ex.unF st kn (colA A x) (colA B x)).length m3] rfl rfl (one_newS w3 _ _) (by intro u hu; simp at hu; subst hu; rfl) (by unfold maxLen; omega) (by omega) (by have := hG2.below.size; simp at this; simp; omega) ?_))
              intro v1' w4 hown hgrow _ hat
              obtain ⟨sv1, mv1, rfl⟩ := own_slice hown
              rw [← HSZ.out] at hown
              have HG : Hid _ := hG2.push E3 _ hgrow hown hat
              clear hown hgrow hat hG2 E3
              go_wp2
              go_roundw
              case rel => exact ⟨x + 1, _, _, _, by omega, by go_num, rfl, HN.out.symm, HG.out⟩
              case measure => simp [intOf]; omega
    · obtain rfl : x = n := Nat.le_antisymm hx (Nat.le_of_not_lt hlt)
      have hcZ : c = Z := by rw [hcz, List.take_of_length_le (Nat.le_of_eq HZl.out)]
      subst hcZ
      have hZw : Ex.Wide (A.length + B.length) c := by
        intro r hr
        rw [HZ.out] at hr
        obtain ⟨k, hk', rfl⟩ := List.getElem_of_mem hr
        rw [List.getElem_zipWith, Ex.unF_len, Ex.trn_mem (List.getElem_mem _), Ex.trn_mem (List.getElem_mem _)]
      obtain ⟨s1, m1, rfl, gC⟩ := hG.holds
      have cR := rows_r c _ s1 m1 W0 hZw j3 (by rw [HZl.out]; exact hn) gC
      have HB : Hid _ := below_call BW hG.below
      have HF : Hid ((Ex.trn (A.length + B.length) c).flatten = (Ex.unC st kn x A B).flatten) := by rw [HZ.out]; exact rfl
      clear hG gC hcz
      go_wp2_with fail
      refine cR.mono ?_
      rintro e w6 ⟨v1, rfl, G1⟩
      have R1 := G1.up HB.out
      rw [HF.out] at R1
      have HR1 : Hid _ := R1
      clear R1 G1 cR
      go_wp2
      go_ret
      exact ⟨_, rfl, HR1.out⟩
end Go.Proofs.Ytoplgnckdmkaoaa
