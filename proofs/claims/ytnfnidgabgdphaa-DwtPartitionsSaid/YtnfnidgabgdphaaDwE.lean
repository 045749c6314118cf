/-
  columns of the reference of layer 5.
-/
import Derived.Test.YtnfnidgabgdphaaDwD
import Derived.Test.YtnfnidgabgdphaaLiftI
set_option maxRecDepth 100000
namespace Go.Proofs.Ytnfnidgabgdphaa
open Go.RowKit

theorem infoS : (Try.prog.info? 28).map (fun i => (i.zero, i.size, i.bytes)) = some (some (.slice none 0 0), 1, 24) := by kernel_rfl
theorem one_newS (W : World) (x : Value) (T : TypeId) : ∀ j u, ([x] : List Value)[j]? = some u → (W.alloc (.cells #[x] T)).cell? ((⟨W.heap.size, 0, none⟩ : Addr).add j) = some u := by
  intro j u hj
  match j, hj with
  | 0, hj => simp at hj; subst hj; simp [Addr.add]
theorem fwd_n (l : List Int) (st kn : Int) (s : Option Addr) (m n : Nat) (w : World) (hk : kB kn = true) (hh : fwB l st = true) (hs : s = none → l.length = 0 ∧ m = 0) (hH : HoldsI w s l) (hn : n = l.length) : Calls Try.prog 75 #[.slice s n m, .int .i64 st, .int .i64 kn] w (GivesSplit (Ex.loF st kn l) (Ex.hiF st kn l) 0 w) := by
  subst hn
  exact fwd_yes l st kn s m w hk hh hs hH
theorem idx_facts {y n x N : Nat} (hy : y ≤ 4096) (hn : n ≤ 4096) (hx : x ≤ 4096) (hN : y * n + x < N) :
    ∃ p q : Nat, y * n = p ∧ p + x = q ∧ IntKind.i64.wrap ((y : Int) * (n : Int)) = (p : Int) ∧ wrap64 ((y : Int) * (n : Int)) = (p : Int) ∧ IntKind.i64.wrap ((p : Int) + (x : Int)) = (q : Int) ∧ (q : Int) < (N : Int) := by
  have hb := mul_4096 hy hn
  have hi : (y : Int) * (n : Int) = ((y * n : Nat) : Int) := by rw [Int.natCast_mul]
  generalize y * n = p at *
  refine ⟨p, p + x, rfl, rfl, ?_, ?_, ?_, by omega⟩
  · rw [hi, IntWalk.i64_in _ (by omega)]
  · rw [hi]; exact IntWalk.wrap64_in _ ⟨by omega, by omega⟩
  · rw [IntWalk.i64_in _ (by omega)]; omega
set_option maxRecDepth 100000 in
set_option maxHeartbeats 2000000 in
theorem cols_r (Q : List (List Int)) (n : Nat) (st kn : Int) (s : Option Addr) (m N h : Nat) (w : World) (hN : N = Q.flatten.length) (hh : h = Q.length) (hW : Ex.Wide n Q) (hn : n ≤ 4096) (hQ : h ≤ 4096) (hk : kB kn = true) (h0 : 0 ≤ st) (h1 : st ≤ 4096) (hw : Ex.within 281474976710656 Q.flatten) (hH : HoldsI w s Q.flatten) :
    Calls Try.prog 76 #[.slice s N m, .int .i64 n, .int .i64 h, .int .i64 st, .int .i64 kn] w fun e w' => ∃ v1 v2, e = .returned (.tuple #[v1, v2]) ∧ Gl w v1 (Ex.lowC st kn n Q).flatten w' ∧ Gl w v2 (Ex.highC st kn n Q).flatten w' := by
  obtain ⟨i0, hi, hz0, hz1, hz2⟩ := info_parts infoI
  obtain ⟨i1, gi, gz0, gz1, gz2⟩ := info_parts infoS
  have hlen := Ex.flat_len hW
  have hTl : (Ex.trn n Q).length = n := Ex.trn_len _ _
  have hcol : ∀ x (hx : x < (Ex.trn n Q).length), (Ex.trn n Q)[x].length = h ∧ fwB (Ex.trn n Q)[x] st = true ∧ ∀ y (hy : y < (Ex.trn n Q)[x].length), ∃ (hyx : y * n + x < Q.flatten.length), Q.flatten[y * n + x] = (Ex.trn n Q)[x][y] := by
    intro x hx
    have e1 : (Ex.trn n Q)[x].length = h := by rw [Ex.trn_mem (List.getElem_mem hx), hh]
    have key : ∀ y (hy : y < (Ex.trn n Q)[x].length), ∃ (hyx : y * n + x < Q.flatten.length), Q.flatten[y * n + x] = (Ex.trn n Q)[x][y] := by
      intro y hy
      have hyQ : y < Q.length := by omega
      have g := Ex.flat_get hW hyQ (x := x) (by omega)
      obtain ⟨ha, hb⟩ := List.getElem?_eq_some_iff.1 g
      refine ⟨ha, ?_⟩
      rw [hb]
      simp [Ex.trn]
    refine ⟨e1, fw_iff.2 ⟨⟨h0, h1, by omega⟩, fun v hv => ?_⟩, key⟩
    obtain ⟨y, hy, rfl⟩ := List.getElem_of_mem hv
    obtain ⟨ha, hb⟩ := key y hy
    rw [← hb]
    exact hw _ (List.getElem_mem ha)
  have HC : Hid _ := hcol
  clear hcol
  have hb0 : C2 w ((w.alloc (.cells #[] 28)).alloc (.cells #[] 28)) (.slice (some ⟨w.heap.size, 0, none⟩) 0 0) (.slice (some ⟨w.heap.size + 1, 0, none⟩) 0 0) [] [] [] [] := by
    have B1 := below_alloc (Below.refl _ w) (.cells #[] 28)
    refine ⟨below_alloc B1 _, ?_, ?_, fun g a b => ?_, ⟨rfl, fun k a => absurd a (Nat.not_lt_zero _)⟩, ⟨rfl, fun k a => absurd a (Nat.not_lt_zero _)⟩⟩
    · exact own_below (World.ownsRow_made (base := w.heap.size) (e := 28) (size := 1) w #[] 0 (Nat.le_refl _) (Nat.zero_le _) rfl) ((Below.refl _ _).alloc (Nat.le_refl _) _)
    · have := World.ownsRow_made (base := w.heap.size) (e := 28) (size := 1) (w.alloc (.cells #[] 28)) #[] 0 (by simp) (Nat.zero_le _) rfl
      simpa using this
    · simp [Value.ownBlock] at a b
      omega
  have HNl : Hid (N = Q.flatten.length) := hN
  have HHl : Hid (Q.length ≤ 4096) := by show Q.length ≤ 4096; omega
  clear hN hh hlen
  go_enter Try.func76, Try.ntmps76
  go_wp2_with fail
  go_loopw [12, 13, 14, 15, 16, 17, 18, 19] (fun v1 v2 i _ _ _ _ _ wr => ∃ (x : Nat) (x1 x2 : Value) (u1 u2 : List Value) (c1 c2 : List (List Int)), x ≤ n ∧ i = .int .i64 x ∧ x1 = v1 ∧ x2 = v2 ∧ c1 = ((Ex.trn n Q).take x).map (Ex.loF st kn) ∧ c2 = ((Ex.trn n Q).take x).map (Ex.hiF st kn) ∧ C2 w wr x1 x2 u1 u2 c1 c2) (fun _ _ i _ _ _ _ _ _ => n - (intOf i).toNat)
  case atStart => exact ⟨0, _, _, [], [], [], [], Nat.zero_le _, rfl, rfl, rfl, by simp, by simp, hb0⟩
  case round =>
    obtain ⟨W0, rfl⟩ : ∃ W0, W0 = wr := ⟨_, rfl⟩
    obtain ⟨x, x1, x2, u1, u2, c1, c2, hx, rfl, rfl, rfl, hc1, hc2, hG⟩ := hrel
    clear hb0
    by_cases hlt : x < n
    · have hxi : (x : Int) < (n : Int) := by omega
      have w1 : IntKind.i64.wrap ((x : Int) + 1) = (x : Int) + 1 := IntWalk.i64_in _ (by omega)
      have hxT : x < (Ex.trn n Q).length := by omega
      obtain ⟨hl, hfw, hget⟩ := HC.out x hxT
      have htk := List.take_succ_eq_append_getElem hxT
      have hd1 : c1 ++ [Ex.loF st kn (Ex.trn n Q)[x]] = ((Ex.trn n Q).take (x + 1)).map (Ex.loF st kn) := by rw [htk, List.map_append, ← hc1]; rfl
      have hd2 : c2 ++ [Ex.hiF st kn (Ex.trn n Q)[x]] = ((Ex.trn n Q).take (x + 1)).map (Ex.hiF st kn) := by rw [htk, List.map_append, ← hc2]; rfl
      have HD1 : Hid _ := hd1
      have HD2 : Hid _ := hd2
      have hcl1 : u1.length ≤ 4096 := by rw [hG.e1.1, hc1, List.length_map, List.length_take]; omega
      have hcl2 : u2.length ≤ 4096 := by rw [hG.e2.1, hc2, List.length_map, List.length_take]; omega
      clear hd1 hd2 hc1 hc2 htk
      generalize (Ex.trn n Q)[x] = col at *
      have hHr := hH.below hG.below (Nat.le_refl _)
      have G0 := Gl.made W0
      go_wp2_with fail
      go_loopw [15, 16] (fun v i wr => ∃ (y : Nat) (o : List Int) (z : Value), y ≤ h ∧ i = .int .i64 y ∧ o = col.take y ∧ z = v ∧ Gl W0 z o wr) (fun _ i _ => h - (intOf i).toNat)
      case atStart => exact ⟨0, [], _, Nat.zero_le _, rfl, by simp, rfl, G0⟩
      case round =>
        obtain ⟨y, o, z, hy, rfl, hO, rfl, hZ⟩ := hrel
        clear G0
        by_cases hlty : y < h
        · have hyi : (y : Int) < (h : Int) := by omega
          have v1 : IntKind.i64.wrap ((y : Int) + 1) = (y : Int) + 1 := IntWalk.i64_in _ (by omega)
          obtain ⟨hp1, hp2⟩ := hget y (by omega)
          obtain ⟨p, q, hp, hq, v2, v2', v3, hqN⟩ := idx_facts (y := y) (x := x) (by omega) hn (by omega) (by rw [HNl.out]; exact hp1 : y * n + x < N)
          have hyc : y < col.length := by omega
          have htk := List.take_succ_eq_append_getElem hyc
          have hHz := hHr.below hZ.below (Nat.le_refl _)
          rcases hHz with hz | ⟨bb, off, rfl, hr⟩
          · rw [hz] at hp1; exact absurd hp1 (Nat.not_lt_zero _)
          have y0 := hr (y * n + x) hp1
          rw [hp2, show off + (y * n + x) = off + q by rw [hp, hq]] at y0
          have hol : o.length ≤ 4096 := by rw [hO, List.length_take]; omega
          have hX0 : o ++ [col[y]] = col.take (y + 1) := by rw [htk, ← hO]
          have HX : Hid _ := hX0
          generalize col[y] = V at *
          clear hr hp1 hp2 htk hX0 hO hp hq
          go_wp2_with (first | (at_builtin; refine wpList_append_own _ rfl _ _ 28 rfl W0.heap.size 3 i0 (.int .i64 0) 1 8 Try.underlying28 hi hz0 hz1 hz2 rfl (by decide) _ _ _ rfl (own_below hZ.own ((Below.refl _ _).alloc (Nat.le_refl _) _)) ⟨wr.heap.size, 0, none⟩ 1 1 [.int .i64 V] rfl rfl (one_new wr _ _) (oneOne _) (by unfold maxLen; omega) (by omega) (by have := hZ.below.size; simp; omega) ?_))
          intro v' wz hown hgrow _
          obtain ⟨sv, mv, rfl⟩ := own_slice hown
          have HG : Hid _ := hZ.push _ hgrow hown
          clear hown hgrow hZ
          go_wp2
          go_roundw
          case rel => exact ⟨y + 1, _, _, by omega, by go_num, HX.out, rfl, HG.out⟩
          case measure => simp [intOf]; omega
        · obtain rfl : y = h := by omega
          have hE : o = col := by rw [hO, List.take_of_length_le (by omega)]
          subst hE
          obtain ⟨sc, mc, rfl, lc, bc1, bc2, _⟩ := hZ.holds
          have hG1 := hG.step hZ.below
          have hsn : sc = none → o.length = 0 ∧ mc = 0 := fun e => by
            refine ⟨?_, bc2 e⟩
            rcases lc with lc | ⟨_, _, lc, _⟩
            · rw [lc]; rfl
            · rw [e] at lc; cases lc
          have cF := fwd_n o st kn sc mc y wr hk hfw hsn lc hl.symm
          clear hO hZ hG
          go_wp2_with fail
          refine cF.mono ?_
          rintro e w3 ⟨s1, m1, s2, m2, rfl, a1, a2, hb, ⟨_, _, f1⟩, ⟨_, _, f2⟩⟩
          have E1 := Elt.fresh (m := m1) hG1.own1 hG1.own2 f1 a1
          have E2 := Elt.fresh (m := m2) hG1.own1 hG1.own2 f2 a2
          have hG2 := hG1.step hb
          clear a1 a2 hb f1 f2 hG1 cF lc
          go_wp2_with (first | (at_builtin; refine wpList_append_own_at _ rfl _ _ 119 rfl w.heap.size 28 i1 (.slice none 0 0) 1 24 Try.underlying119 gi gz0 gz1 gz2 rfl (by decide) _ _ _ rfl (own_below hG2.own1 ((Below.refl _ _).alloc (Nat.le_refl _) _)) ⟨w3.heap.size, 0, none⟩ 1 1 [.slice s1 (Ex.loF st kn o).length m1] rfl rfl (one_newS w3 _ _) (by intro u hu; simp at hu; subst hu; rfl) (by unfold maxLen; omega) (by omega) (by have := hG2.below.size; simp; omega) ?_))
          intro v1' w4 hown hgrow _ hat
          have E2' := hG2.elt (v' := v1') E2 _ hgrow hat
          have hG3 := hG2.push E1 _ hgrow hown hat
          obtain ⟨sv1, mv1, rfl⟩ := own_slice hown
          clear hown hgrow hat hG2 E1 E2
          go_wp2_with (first | (at_builtin; refine wpList_append_own_at _ rfl _ _ 119 rfl w.heap.size 28 i1 (.slice none 0 0) 1 24 Try.underlying119 gi gz0 gz1 gz2 rfl (by decide) _ _ _ rfl (own_below hG3.own2 ((Below.refl _ _).alloc (Nat.le_refl _) _)) ⟨w4.heap.size, 0, none⟩ 1 1 [.slice s2 (Ex.hiF st kn o).length m2] rfl rfl (one_newS w4 _ _) (by intro u hu; simp at hu; subst hu; rfl) (by unfold maxLen; omega) (by omega) (by have := hG3.below.size; simp; omega) ?_))
          intro v2' w5 hown hgrow _ hat
          have hG4 := (hG3.swap.push E2'.swap _ hgrow hown hat).swap
          obtain ⟨sv2, mv2, rfl⟩ := own_slice hown
          have HG : Hid _ := hG4
          clear hown hgrow hat hG3 hG4 E2'
          go_wp2
          go_roundw
          case rel => exact ⟨x + 1, _, _, _, _, _, _, by omega, by go_num, rfl, rfl, HD1.out, HD2.out, HG.out⟩
          case measure => simp [intOf]; omega
    · obtain rfl : x = n := by omega
      have hf1 : c1 = (Ex.lowR st kn (Ex.trn x Q)) := by rw [hc1, List.take_of_length_le (by omega)]; rfl
      have hf2 : c2 = (Ex.highR st kn (Ex.trn x Q)) := by rw [hc2, List.take_of_length_le (by omega)]; rfl
      have hQl : Q.length ≤ 4096 := HHl.out
      have k1 : ∀ y : Int, Ex.cntE y Q.length ≤ 4096 := fun y => by have := (Ex.cnt_next (s := y) (k := Q.length)).2.2; omega
      have k2 : ∀ y : Int, Ex.cntO y Q.length ≤ 4096 := fun y => by have := (Ex.cnt_next (s := y) (k := Q.length)).2.2; omega
      have W1 : Ex.Wide (Ex.cntE st Q.length) c1 := hf1 ▸ Ex.lowR_wide (Ex.trn_wide x Q)
      have W2 : Ex.Wide (Ex.cntO st Q.length) c2 := hf2 ▸ Ex.highR_wide (Ex.trn_wide x Q)
      have L1 : c1.length ≤ 4096 := by rw [hf1, Ex.lowR, List.length_map]; omega
      have L2 : c2.length ≤ 4096 := by rw [hf2, Ex.highR, List.length_map]; omega
      have F1 : Hid ((Ex.trn (Ex.cntE st Q.length) c1).flatten = (Ex.lowC st kn x Q).flatten) := by rw [hf1]; exact rfl
      have F2 : Hid ((Ex.trn (Ex.cntO st Q.length) c2).flatten = (Ex.highC st kn x Q).flatten) := by rw [hf2]; exact rfl
      obtain ⟨s1, m1, rfl, g1⟩ := hG.holds
      obtain ⟨s2, m2, rfl, g2⟩ := hG.swap.holds
      have HB : Hid _ := hG.below
      obtain ⟨N1, hN1⟩ : ∃ N1, c1.length = N1 := ⟨_, rfl⟩
      obtain ⟨N2, hN2⟩ : ∃ N2, c2.length = N2 := ⟨_, rfl⟩
      have cR1 := rows_r c1 _ s1 m1 W0 W1 (k1 st) L1 g1
      rw [hN1] at cR1
      rw [hN1, hN2]
      clear hc1 hc2 hf1 hf2 hG L1 W1 g1 hN1
      go_wp2_with fail
      refine cR1.mono ?_
      rintro e w6 ⟨v1, rfl, G1⟩
      have cR2 := rows_r c2 _ s2 m2 w6 W2 (k2 st) L2 (g2.call G1.below)
      rw [hN2] at cR2
      have HG1 : Hid _ := G1
      clear g2 cR1 G1 hN2
      go_wp2_with fail
      refine cR2.mono ?_
      rintro e w7 ⟨v2, rfl, G2⟩
      have R1 := (HG1.out.up HB.out).step G2.below
      have R2 := G2.up (below_call HB.out HG1.out.below)
      rw [F1.out] at R1
      rw [F2.out] at R2
      have HR1 : Hid _ := R1
      have HR2 : Hid _ := R2
      clear R1 R2 G2 cR2
      go_wp2
      go_ret2
      exact ⟨_, _, rfl, HR1.out, HR2.out⟩
end Go.Proofs.Ytnfnidgabgdphaa
