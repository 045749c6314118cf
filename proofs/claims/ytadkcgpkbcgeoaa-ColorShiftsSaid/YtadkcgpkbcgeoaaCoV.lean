/-
  The reference's Unshift.
-/
import Derived.Test.YtadkcgpkbcgeoaaCoR
set_option maxRecDepth 100000
namespace Go.Proofs.Ytadkcgpkbcgeoaa
open Go.RowKit

theorem usr_take {d lo hi : Int} {l : List Int} {k : Nat} (hk : k < l.length) : (addL d (clipL lo hi l)).take k ++ [min (max l[k] lo) hi + d] = (addL d (clipL lo hi l)).take (k + 1) := by
  rw [List.take_succ_eq_append_getElem (by rw [addL_len, clipL_len]; exact hk)]
  simp [addL, clipL, clipI]
theorem usr_end (d lo hi : Int) (l : List Int) : (addL d (clipL lo hi l)).take l.length = addL d (clipL lo hi l) := by
  have : (addL d (clipL lo hi l)).length = l.length := by rw [addL_len, clipL_len]
  rw [← this, List.take_length]
set_option maxRecDepth 100000 in
set_option maxHeartbeats 4000000 in
theorem usr_yes (a b c d n x y : Int) (sg : Bool) (s : Option Addr) (m : Nat) (l : List Int) (w : World) (hH : HoldsI w s l) (hp : pvB a b c d l.length = true) (hd : Co.dB n = true) : Calls Try.prog 39 #[.agg #[.int .i64 a, .int .i64 b, .int .i64 c, .int .i64 d, .slice s l.length m], .agg #[.int .i64 n, .bool sg, .int .i64 x, .int .i64 y]] w (GivesPlane ⟨a, b, c, d⟩ (addL (Co.offC sg n) (clipL (Co.rgL sg n - Co.offC sg n) (Co.rgH sg n - Co.offC sg n) l)) 0 w) := by
  have rz := rg_zero (sg := sg) hd
  have hl1 := pv_le hp
  have hdd := Co.d_iff.1 hd
  have m1 : ¬ n < 1 := by omega
  have m2 : ¬ 16 < n := by omega
  obtain ⟨i0, hi', hz0, hz1, hz2⟩ := info_parts infoI
  have p := ((QBox.fresh w a b c d s l.length m 40).alloc (.cells #[.int .i64 n, .bool sg, .int .i64 x, .int .i64 y] 42)).alloc (.cells #[.int .i64 0, .int .i64 0, .int .i64 0, .int .i64 0, .slice none 0 0] 40)
  have k := (CBox.freshAt (w.alloc (.cells #[.int .i64 a, .int .i64 b, .int .i64 c, .int .i64 d, .slice s l.length m] 40)) (w.heap.size + 1) (by simp) n sg x y 42).alloc (.cells #[.int .i64 0, .int .i64 0, .int .i64 0, .int .i64 0, .slice none 0 0] 40)
  have z := QBox.freshAt ((w.alloc (.cells #[.int .i64 a, .int .i64 b, .int .i64 c, .int .i64 d, .slice s l.length m] 40)).alloc (.cells #[.int .i64 n, .bool sg, .int .i64 x, .int .i64 y] 42)) (w.heap.size + 2) (by simp) 0 0 0 0 none 0 0 40
  have B := below_alloc (below_alloc (below_alloc (Below.refl _ w) (.cells #[.int .i64 a, .int .i64 b, .int .i64 c, .int .i64 d, .slice s l.length m] 40)) (.cells #[.int .i64 n, .bool sg, .int .i64 x, .int .i64 y] 42)) (.cells #[.int .i64 0, .int .i64 0, .int .i64 0, .int .i64 0, .slice none 0 0] 40)
  have lp := ((hH.alloc (.cells #[.int .i64 a, .int .i64 b, .int .i64 c, .int .i64 d, .slice s l.length m] 40)).alloc (.cells #[.int .i64 n, .bool sg, .int .i64 x, .int .i64 y] 42)).alloc (.cells #[.int .i64 0, .int .i64 0, .int .i64 0, .int .i64 0, .slice none 0 0] 40)
  go_enter Try.func39, Try.ntmps39
  obtain ⟨p0, p1, p2, p3, p4⟩ := p.open
  go_wp2_with fail
  clear p0 p1 p2 p3 p4
  refine (pv_r _ _ _ _ _ _ _ _).mono ?_
  rintro e w1 ⟨rfl, hb⟩
  replace p := p.below hb
  replace k := k.below hb
  replace z := z.below hb
  replace B := below_call B hb
  replace lp := lp.call hb
  clear hb
  obtain ⟨k0, k1, k2, k3⟩ := k.open
  go_wp2_with fail
  clear k0 k1 k2 k3
  refine (rng_r n sg x y _).mono ?_
  rintro e w2 ⟨rfl, hb⟩
  replace p := p.below hb
  replace k := k.below hb
  replace z := z.below hb
  replace B := below_call B hb
  replace lp := lp.call hb
  clear hb
  have hz3 := z.lt
  have R0 : Rl w w2 ⟨a, b, c, d⟩ (.slice s l.length m) n sg x y (.slice none 0 0) [] (w2.alloc (.cells #[.int .i64 a, .int .i64 b, .int .i64 c, .int .i64 d, .slice none 0 0] 40)) := ⟨p.alloc _, k.alloc _, z.alloc _, Gr.start a b c d, below_alloc B _⟩
  obtain ⟨p0, p1, p2, p3, p4⟩ := p.open
  obtain ⟨y0, y1, y2, y3, y4⟩ := R0.p.open
  go_wp2_with fail
  clear p0 p1 p2 p3 p4 y0 y1 y2 y3 y4 p k z B lp
  have hmx := hmxq
  have hmn := hmnq
  go_loopw [9] (fun i wr => ∃ (k : Nat) (v : Value), k ≤ l.length ∧ i = .int .i64 k ∧ Rl w w2 ⟨a, b, c, d⟩ (.slice s l.length m) n sg x y v ((addL (Co.offC sg n) (clipL (Co.rgL sg n - Co.offC sg n) (Co.rgH sg n - Co.offC sg n) l)).take k) wr) (fun i _ => l.length - (intOf i).toNat)
  case atStart => exact ⟨0, _, by omega, rfl, by simpa using R0⟩
  case round =>
    obtain ⟨k, v, hk, rfl, hR⟩ := hrel
    clear R0
    obtain ⟨c0, c1, c2, c3, c4⟩ := hR.p.open
    by_cases hlt : k < l.length
    · have hlenk : ((addL (Co.offC sg n) (clipL (Co.rgL sg n - Co.offC sg n) (Co.rgH sg n - Co.offC sg n) l)).take k).length = k := by rw [List.length_take, addL_len, clipL_len]; omega
      rcases hH with rfl | ⟨bb, off, rfl, hr⟩
      · simp at hlt
      have hblt : bb < w.heap.size := cell_lt (hr k hlt)
      have hi1 : (k : Int) < (l.length : Int) := by omega
      have HC : Hid _ := usr_take (d := Co.offC sg n) (lo := Co.rgL sg n - Co.offC sg n) (hi := Co.rgH sg n - Co.offC sg n) hlt
      have hwk : IntKind.i64.wrap ((k : Int) + 1) = (k : Int) + 1 := i64_in' _ (by omega) (by omega)
      have wl : IntKind.i64.wrap (Co.rgL sg n - Co.offC sg n) = Co.rgL sg n - Co.offC sg n := i64_in' _ (by omega) (by omega)
      have wh : IntKind.i64.wrap (Co.rgH sg n - Co.offC sg n) = Co.rgH sg n - Co.offC sg n := i64_in' _ (by omega) (by omega)
      obtain ⟨U, hU⟩ : ∃ U, U = min (max l[k] (Co.rgL sg n - Co.offC sg n)) (Co.rgH sg n - Co.offC sg n) := ⟨_, rfl⟩
      have wv : IntKind.i64.wrap (U + Co.offC sg n) = U + Co.offC sg n := i64_in' _ (by omega) (by omega)
      have HU : Hid _ := hU
      replace hU := hU.symm
      have co := fun W => off_r n sg x y W hd
      have HrH : Hid _ := hr
      clear hr
      go_wp2_with fail
      have hst := Fam.next (I := Rl w w2 ⟨a, b, c, d⟩ (.slice (some ⟨bb, off, none⟩) l.length m) n sg x y v ((addL (Co.offC sg n) (clipL (Co.rgL sg n - Co.offC sg n) (Co.rgH sg n - Co.offC sg n) l)).take k)) (fun _ _ p q => p.step q)
      have hne : Nonempty (Fam (Rl w w2 ⟨a, b, c, d⟩ (.slice (some ⟨bb, off, none⟩) l.length m) n sg x y v ((addL (Co.offC sg n) (clipL (Co.rgL sg n - Co.offC sg n) (Co.rgH sg n - Co.offC sg n) l)).take k))) := ⟨⟨_, hR⟩⟩
      have e4 : ∀ X : Fam (Rl w w2 ⟨a, b, c, d⟩ (.slice (some ⟨bb, off, none⟩) l.length m) n sg x y v ((addL (Co.offC sg n) (clipL (Co.rgL sg n - Co.offC sg n) (Co.rgH sg n - Co.offC sg n) l)).take k)), X.W.cell? ⟨w.heap.size, 4, none⟩ = some (.slice (some ⟨bb, off, none⟩) l.length m) := fun X => X.ok.p.data
      have e0 : ∀ X : Fam (Rl w w2 ⟨a, b, c, d⟩ (.slice (some ⟨bb, off, none⟩) l.length m) n sg x y v ((addL (Co.offC sg n) (clipL (Co.rgL sg n - Co.offC sg n) (Co.rgH sg n - Co.offC sg n) l)).take k)), X.W.cell? ⟨bb, off + k, none⟩ = some (.int .i64 l[k]) := fun X => (X.ok.below.cell (p := ⟨bb, _, none⟩) hblt).trans (HrH.out k hlt)
      have k0 : ∀ X : Fam (Rl w w2 ⟨a, b, c, d⟩ (.slice (some ⟨bb, off, none⟩) l.length m) n sg x y v ((addL (Co.offC sg n) (clipL (Co.rgL sg n - Co.offC sg n) (Co.rgH sg n - Co.offC sg n) l)).take k)), X.W.cell? ⟨w.heap.size + 1, 0, none⟩ = some (.int .i64 n) := fun X => X.ok.k.c0
      have k1 : ∀ X : Fam (Rl w w2 ⟨a, b, c, d⟩ (.slice (some ⟨bb, off, none⟩) l.length m) n sg x y v ((addL (Co.offC sg n) (clipL (Co.rgL sg n - Co.offC sg n) (Co.rgH sg n - Co.offC sg n) l)).take k)), X.W.cell? ⟨w.heap.size + 1, 1, none⟩ = some (.bool sg) := fun X => X.ok.k.c1
      have k2 : ∀ X : Fam (Rl w w2 ⟨a, b, c, d⟩ (.slice (some ⟨bb, off, none⟩) l.length m) n sg x y v ((addL (Co.offC sg n) (clipL (Co.rgL sg n - Co.offC sg n) (Co.rgH sg n - Co.offC sg n) l)).take k)), X.W.cell? ⟨w.heap.size + 1, 2, none⟩ = some (.int .i64 x) := fun X => X.ok.k.c2
      have k3 : ∀ X : Fam (Rl w w2 ⟨a, b, c, d⟩ (.slice (some ⟨bb, off, none⟩) l.length m) n sg x y v ((addL (Co.offC sg n) (clipL (Co.rgL sg n - Co.offC sg n) (Co.rgH sg n - Co.offC sg n) l)).take k)), X.W.cell? ⟨w.heap.size + 1, 3, none⟩ = some (.int .i64 y) := fun X => X.ok.k.c3
      refine wp_region_in (fun X : Fam (Rl w w2 ⟨a, b, c, d⟩ (.slice (some ⟨bb, off, none⟩) l.length m) n sg x y v ((addL (Co.offC sg n) (clipL (Co.rgL sg n - Co.offC sg n) (Co.rgH sg n - Co.offC sg n) l)).take k)) => X.W) (by kernel_rfl) (by kernel_rfl) ⟨⟨_, hR.step (Below.refl _ _).drew⟩, rfl⟩ ?_
      repeat (first | go_big_quiet_step ((go_at_call 74; exact call_in (co _) (hst _))) | quiet_step ((go_at_call 74; exact call_in (co _) (hst _))))
      refine wpQuiet_nil ?_
      intro w5 hw'
      obtain ⟨⟨_, hS⟩, hw''⟩ := hw'
      subst hw''
      clear hst hne e4 e0 k0 k1 k2 k3 hR c0 c1 c2 c3 c4
      obtain ⟨f0, f1, f2, f3, f4⟩ := hS.G.o.open
      obtain ⟨k0, k1, k2, k3⟩ := hS.k.open
      go_wp2_with fail
      go_region_law (first | (go_simp; go_at_call 74; (with_reducible refine (co _).mono ?_); rintro e x1 ⟨rfl, hbx⟩; have Rx := hS.step (below_call ((Below.refl _ _).drew) hbx); have hown : x1.ownsRow (w2.heap.size + 1) 3 1 v k (((addL (Co.offC sg n) (clipL (Co.rgL sg n - Co.offC sg n) (Co.rgH sg n - Co.offC sg n) l)).take k).map (Value.int .i64)) := (by have := Rx.G.own; rw [hlenk] at this; exact this); obtain ⟨f0, f1, f2, f3, f4⟩ := Rx.G.o.open; have ga := (Rx.G.o.alloc (.cells #[.int .i64 (U + Co.offC sg n)] 3)).open.2.2.2.2; have hdz : w2.heap.size < x1.heap.size := Rx.G.o.lt; clear hbx; go_wp2_with fail) | (refine step_append_own rfl (.tmp 55) (.tmp 60) 38 rfl (w2.heap.size + 1) 3 i0 (.int .i64 0) 1 8 Try.underlying38 hi' hz0 hz1 hz2 rfl (by decide) _ _ _ rfl (own_below hown ((Below.refl _ _).alloc (Nat.le_refl _) _)) ⟨x1.heap.size, 0, none⟩ 1 1 [.int .i64 (U + Co.offC sg n)] rfl rfl (one_new x1 _ _) (oneOne _) (by unfold maxLen; omega) (by omega) (by have := Rx.G.o.lt; simp; omega) ?_; intro v' w6 hown6 hgrow6; obtain ⟨sv, mv, rfl⟩ := own_slice hown6; have R7 := Rx.push hz3 _ hgrow6 (by rw [hlenk]; exact hown6); have hb6 : Below (w2.heap.size + 1) x1 w6 := ((Below.refl _ _).alloc (by have := Rx.G.o.lt; omega) _).grown hgrow6 (by have := Rx.G.o.lt; simp; omega) (fun k hk => (Rx.G.own.lt k hk).1); have o6 := Rx.G.o.belowAt hb6 (by omega); obtain ⟨t0, t1, t2, t3, t4⟩ := o6.open; have t5 := o6.free; clear hb6 hgrow6 hown6))
      all_goals
        rw [HU.out, HC.out] at R7
        have HG : Hid _ := R7
        clear R7 t0 t1 t2 t3 t4 t5 o6 ga f0 f1 f2 f3 f4 Rx hS hown k0 k1 k2 k3
        go_wp2
        go_roundw
        case rel => exact ⟨k + 1, _, by omega, by go_num, HG.out⟩
        case measure => simp [intOf]; omega
    · obtain rfl : k = l.length := by omega
      obtain ⟨sv, mv, rfl, hmv, hgive⟩ := hR.G.gives (usr_end _ _ _ l) (w.heap.size + 2) (by omega)
      have z4 := hR.z
      have B4 := hR.below
      obtain ⟨d0, d1, d2, d3, d4⟩ := hR.G.o.open
      obtain ⟨e0, e1, e2, e3, e4⟩ := z4.open
      have g4 := z4.free
      have z4l := z4.lt
      have HV : Hid _ := hgive
      clear hR hgive
      generalize hLL : addL (Co.offC sg n) (clipL (Co.rgL sg n - Co.offC sg n) (Co.rgH sg n - Co.offC sg n) l) = LL at *
      go_wp2
      refine bodyPost_ret (v := .tuple #[.agg #[.int .i64 a, .int .i64 b, .int .i64 c, .int .i64 d, .slice sv LL.length mv], .int .i64 0]) ?_ rfl ?_
      · obtain ⟨q0, q1, q2, q3, q4⟩ := (z4.store a b c d (.slice sv LL.length mv)).open
        simp [results, Try.results39, go_sem, q0, q1, q2, q3, q4]
      · exact ⟨sv, mv, rfl, HV.out _ _ _ _ _, below5 B4 (by omega) _ _ _ _ _, hmv⟩
end Go.Proofs.Ytadkcgpkbcgeoaa
