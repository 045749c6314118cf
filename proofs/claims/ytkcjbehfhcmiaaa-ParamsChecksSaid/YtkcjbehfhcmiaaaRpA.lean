/-
  Layer 23 (reference): contracts of Packets and Blocks.
-/
import Derived.Test.YtkcjbehfhcmiaaaRg
import Derived.Test.YtkcjbehfhcmiaaaRk
import Derived.Test.YtkcjbehfhcmiaaaJp
import Derived.Test.YtkcjbehfhcmiaaaHt
import Derived.Test.YtkcjbehfhcmiaaaBd
set_option maxRecDepth 100000
namespace Go.Proofs.Ytkcjbehfhcmiaaa
open Go.RowKit


def pkN (h : Hp.Hd) (p : Hp.Ps) (V : Pl.R) (k : Nat) : Int := (h.cs.take k).foldl (Hp.gComI p V) 0
def pkR (p : Hp.Ps) (V : Pl.R) (c : Hp.Cm) (n : Int) (q : Nat) : Int := (List.range q).foldl (Hp.gResI p c V) n
theorem pkN_next (h : Hp.Hd) (p : Hp.Ps) (V : Pl.R) {k : Nat} (hk : k < h.cs.length) : pkN h p V (k + 1) = pkR p V h.cs[k] (pkN h p V k) (p.lev + 1).toNat := by
  unfold pkN pkR
  rw [List.take_succ_eq_append_getElem hk, List.foldl_append]
  rfl
theorem pkR_next (p : Hp.Ps) (V : Pl.R) (c : Hp.Cm) (n : Int) (q : Nat) : pkR p V c n (q + 1) = pkR p V c n q + Hp.gridN (Hp.fRes p q c V) (Hp.precM p q) := by
  unfold pkR
  rw [List.range_succ, List.foldl_append]
  rfl
theorem fres_v {p : Hp.Ps} {V : Pl.R} {c : Hp.Cm} (hc : (1 ≤ c.dx ∧ c.dx ≤ 4096) ∧ 1 ≤ c.dy ∧ c.dy ≤ 4096) (hv : Pl.validB V.x0 V.y0 V.x1 V.y1 = true) (q : Int) : Pl.validB (Hp.fRes p q c V).x0 (Hp.fRes p q c V).y0 (Hp.fRes p q c V).x1 (Hp.fRes p q c V).y1 = true :=
  ((Hp.sep_smp hc.1 hc.2).comp Hp.sep_res : Hp.Sep (Hp.fRes p q c)).v V hv
theorem pkR_bd {p : Hp.Ps} {V : Pl.R} {c : Hp.Cm} (hc : (1 ≤ c.dx ∧ c.dx ≤ 4096) ∧ 1 ≤ c.dy ∧ c.dy ≤ 4096) (hv : Pl.validB V.x0 V.y0 V.x1 V.y1 = true) (n : Int) : ∀ q : Nat, n ≤ pkR p V c n q ∧ pkR p V c n q ≤ n + 16777216 * q
  | 0 => by simp [pkR]
  | q + 1 => by
    have a := pkR_bd hc hv n q (p := p)
    have b := grid_bd (r := Hp.fRes p q c V) (a := (Hp.precM p q).x) (b := (Hp.precM p q).y) (fres_v hc hv q)
    rw [pkR_next]
    have e : Hp.gridN (Hp.fRes p q c V) (Hp.precM p q) = Hp.gridN (Hp.fRes p q c V) ⟨(Hp.precM p q).x, (Hp.precM p q).y⟩ := rfl
    omega
theorem pkN_bd {h : Hp.Hd} {p : Hp.Ps} {V : Pl.R} (P : POk h p) (hv : Pl.validB V.x0 V.y0 V.x1 V.y1 = true) : ∀ {k : Nat}, k ≤ h.cs.length → 0 ≤ pkN h p V k ∧ pkN h p V k ≤ 100663296 * k
  | 0, _ => by simp [pkN]
  | k + 1, hk => by
    have a := pkN_bd P hv (k := k) (by omega)
    rw [pkN_next h p V (by omega)]
    have b := pkR_bd (p := p) (V := V) (P.cms _ (List.getElem_mem (show k < h.cs.length by omega))) hv (pkN h p V k) (p.lev + 1).toNat
    have c := P.lev
    omega
/-- What Packets keeps in memory. -/
structure PkS (W : World) (h : Hp.Hd) (p : Hp.Ps) (V : Pl.R) (sh s s2 : Option Addr) (mh m m2 : Nat) (w : World) : Prop where
  bl : Below W.heap.size W w
  bh : Blk w W.heap.size 26 (hvA h sh mh)
  bp : Blk w (W.heap.size + 1) 35 (pvA p s m s2 m2)
  bt : Blk w (W.heap.size + 2) 23 #[.int .i64 V.x0, .int .i64 V.y0, .int .i64 V.x1, .int .i64 V.y1]
  hC : HoldsC w sh h.cs
  hP : HoldsP w s p.prec
theorem PkS.below {W : World} {h : Hp.Hd} {p : Hp.Ps} {V : Pl.R} {sh s s2 : Option Addr} {mh m m2 : Nat} {w w' : World} (a : PkS W h p V sh s s2 mh m m2 w) (hb : Below w.heap.size w w') : PkS W h p V sh s s2 mh m m2 w' :=
  ⟨a.bl.trans (hb.mono a.bl.size), a.bh.below hb, a.bp.below hb, a.bt.below hb, a.hC.below hb (Nat.le_refl _), a.hP.below hb (Nat.le_refl _)⟩
theorem keepr {w w' : World} {b o : Nat} {v : Value} (h : w.cell? ⟨b, o, none⟩ = some v) (hb : Below w.heap.size w w') : w'.cell? ⟨b, o, none⟩ = some v := (hb.cell (p := ⟨b, o, none⟩) (cell_lt h)).trans h
theorem onr4 (a b c d : Int) : (#[.int .i64 a, .int .i64 b, .int .i64 c, .int .i64 d] : Array Value).all (·.oneCell') = true := by simp [Value.oneCell']
theorem inr4 : (Try.prog.info? 23).map (·.size) = some 4 := by kernel_rfl
set_option maxHeartbeats 16000000 in
theorem rpk_c (h : Hp.Hd) (p : Hp.Ps) (V : Pl.R) (P : POk h p) (hv : Pl.validB V.x0 V.y0 V.x1 V.y1 = true) (sh s s2 : Option Addr) (mh m m2 : Nat) (W : World) (hC : HoldsC W sh h.cs) (hP : HoldsP W s p.prec) :
    Calls Try.prog 39 #[.agg (hvA h sh mh), .agg (pvA p s m s2 m2), .agg #[.int .i64 V.x0, .int .i64 V.y0, .int .i64 V.x1, .int .i64 V.y1]] W fun e w' => e = .returned (.int .i64 (Hp.pkM h p V * p.lay)) ∧ Below W.heap.size W w' := by
  obtain ⟨WB, hWB⟩ : ∃ ww, ww = (((W.alloc (.cells (hvA h sh mh) 26)).alloc (.cells (pvA p s m s2 m2) 35)).alloc (.cells #[.int .i64 V.x0, .int .i64 V.y0, .int .i64 V.x1, .int .i64 V.y1] 23)) := ⟨_, rfl⟩
  have hb0 : Below W.heap.size W WB := by rw [hWB]; exact below_alloc (below_alloc (below_alloc (Below.refl _ W) (Nat.le_refl _) _) (by simp) _) (by simp <;> omega) _
  have n1 := Blk.new W 26 (hvA h sh mh)
  have n2' := Blk.new (W.alloc (.cells (hvA h sh mh) 26)) 35 (pvA p s m s2 m2)
  have n3 := Blk.new ((W.alloc (.cells (hvA h sh mh) 26)).alloc (.cells (pvA p s m s2 m2) 35)) 23 #[.int .i64 V.x0, .int .i64 V.y0, .int .i64 V.x1, .int .i64 V.y1]
  have q1 : Blk WB W.heap.size 26 (hvA h sh mh) := by rw [hWB]; exact (n1.alloc _).alloc _
  have q2 : Blk WB (W.heap.size + 1) 35 (pvA p s m s2 m2) := by rw [hWB]; exact (show Blk _ (W.heap.size + 1) _ _ by simpa using n2').alloc _
  have q3 : Blk WB (W.heap.size + 2) 23 #[.int .i64 V.x0, .int .i64 V.y0, .int .i64 V.x1, .int .i64 V.y1] := by rw [hWB]; exact (show Blk _ (W.heap.size + 2) _ _ by simpa using n3)
  have A0 := Lib.hid (show PkS W h p V sh s s2 mh m m2 WB from ⟨hb0, q1, q2, q3, hC.below hb0 (Nat.le_refl _), hP.below hb0 (Nat.le_refl _)⟩)
  have HW2 := hWB
  have HPO := Lib.hid P
  have HVV := Lib.hid hv
  have HFEW := Lib.hid P.few
  clear n1 n2' n3 q1 q2 q3 hb0 hWB hC hP hv P
  show Calls Try.prog 39 #[.agg #[.int .i64 h.a, .int .i64 h.b, .int .i64 h.c, .int .i64 h.d, .int .i64 h.tw, .int .i64 h.th, .slice sh h.cs.length mh], .agg #[.int .i64 p.kern, .int .i64 p.lev, .int .i64 p.col, .int .i64 p.bx, .int .i64 p.yb, .slice s p.prec.length m, .int .i64 p.ord, .int .i64 p.lay, .bool p.m0, .bool p.m1, .bool p.m2, .bool p.m3, .bool p.m4, .bool p.dv, .bool p.sy, .bool p.fe, .slice s2 p.steps.length m2, .int .i64 p.dead, .int .i64 p.sh], .agg #[.int .i64 V.x0, .int .i64 V.y0, .int .i64 V.x1, .int .i64 V.y1]] W _
  unfold hvA pvA at HW2
  go_enter Try.func39, Try.ntmps39
  go_upto_region 1 with fail
  rw [← HW2]
  clear HW2
  go_upto_region 3 with fail
  go_loopw [7, 8] (fun v7 v8 wr => ∃ k : Nat, k ≤ h.cs.length ∧ v8 = .int .i64 k ∧ v7 = .int .i64 (pkN h p V k) ∧ Hid (PkS W h p V sh s s2 mh m m2 wr)) (fun _ v _ => h.cs.length - (intOf v).toNat)
  case atStart => exact ⟨0, Nat.zero_le _, rfl, rfl, A0⟩
  case round =>
    obtain ⟨k, hk, rfl, rfl, HA⟩ := hrel
    clear A0
    by_cases hlt : k < h.cs.length
    case pos =>
      rcases HA.out.hC with z | ⟨b, off, rfl, hr⟩
      · rw [z] at hlt; simp at hlt
      obtain ⟨c0, c1, c2, c3⟩ := hr k hlt
      have hki : (k : Int) < (h.cs.length : Int) := by omega
      have w2' : IntKind.i64.wrap ((k : Int) + 1) = (k : Int) + 1 := IntWalk.i64_in _ (by have := HFEW.out; omega)
      have HCM := Lib.hid (HPO.out.cms _ (List.getElem_mem hlt))
      have HNX := Lib.hid (pkN_next h p V hlt)
      have kr := fun w : World => red_r V.x0 V.y0 V.x1 V.y1 h.cs[k].dx h.cs[k].dy w
      have er : Pl.redR V.x0 V.y0 V.x1 V.y1 h.cs[k].dx h.cs[k].dy = Hp.smp V h.cs[k] := rfl
      rw [er] at kr
      have HBD := Lib.hid (pkN_bd HPO.out HVV.out hk)
      clear er
      obtain ⟨Q, hQ⟩ : ∃ x, x = Hp.smp V h.cs[k] := ⟨_, rfl⟩
      rw [← hQ] at kr
      obtain ⟨C, hCC⟩ : ∃ x, x = h.cs[k] := ⟨_, rfl⟩
      rw [← hCC] at kr HCM HNX hQ c0 c1 c2 c3
      have HQ := Lib.hid hQ
      clear hr hCC hQ
      obtain ⟨t0, t1, t2, t3⟩ := HA.out.bt.four
      obtain ⟨-, -, -, -, -, -, g6⟩ := HA.out.bh.hd
      go_upto_region 5 with fail
      go_cut [9] (fun s9 wx => ∃ gx, s9 = .pointer (some ⟨gx, 0, none⟩) ∧ Hid (PkS W h p V (some ⟨b, off, none⟩) s s2 mh m m2 wx) ∧ Hid (Blk wx gx 23 #[.int .i64 Q.x0, .int .i64 Q.y0, .int .i64 Q.x1, .int .i64 Q.y1]))
      case first =>
        refine wp_region_held_drew (S := (fun w => Below wr.heap.size wr w)) (by kernel_rfl) (by (try dsimp only); exact (Below.refl _ _).drew) (fun hHeld => ?_)
        refine takeD (i := 0) (oi := _) (some 19) (v := ?_) rfl rfl (by kernel_rfl) (by kernel_rfl) (by kernel_rfl) (fun _ _ _ h => h) (Or.inl ⟨by rfl, ?_⟩) (by assumption) ?_
        rotate_left
        · (intro w hSw; (try dsimp only at hSw); have z0 := keepr t0 hSw; have z1 := keepr t1 hSw; have z2 := keepr t2 hSw; have z3 := keepr t3 hSw; have z4 := keepr g6 hSw; have z5 := keepr c2 hSw; have z6 := keepr c3 hSw; go_simp; try with_reducible rfl)
        simp only [Act.put, List.setIfInBounds_toArray, List.set]
        refine takeD (i := 1) (oi := _) (some 20) (v := ?_) rfl rfl (by kernel_rfl) (by kernel_rfl) (by kernel_rfl) (fun _ _ _ h => h) (Or.inl ⟨by rfl, ?_⟩) (by assumption) ?_
        rotate_left
        · (intro w hSw; (try dsimp only at hSw); have z0 := keepr t0 hSw; have z1 := keepr t1 hSw; have z2 := keepr t2 hSw; have z3 := keepr t3 hSw; have z4 := keepr g6 hSw; have z5 := keepr c2 hSw; have z6 := keepr c3 hSw; go_simp; try with_reducible rfl)
        simp only [Act.put, List.setIfInBounds_toArray, List.set]
        refine takeD (i := 2) (oi := _) (some 21) (v := ?_) rfl rfl (by kernel_rfl) (by kernel_rfl) (by kernel_rfl) (fun _ _ _ h => h) (Or.inl ⟨by rfl, ?_⟩) (by assumption) ?_
        rotate_left
        · (intro w hSw; (try dsimp only at hSw); have z0 := keepr t0 hSw; have z1 := keepr t1 hSw; have z2 := keepr t2 hSw; have z3 := keepr t3 hSw; have z4 := keepr g6 hSw; have z5 := keepr c2 hSw; have z6 := keepr c3 hSw; go_simp; try with_reducible rfl)
        simp only [Act.put, List.setIfInBounds_toArray, List.set]
        refine takeD (i := 3) (oi := _) (some 22) (v := ?_) rfl rfl (by kernel_rfl) (by kernel_rfl) (by kernel_rfl) (fun _ _ _ h => h) (Or.inl ⟨by rfl, ?_⟩) (by assumption) ?_
        rotate_left
        · (intro w hSw; (try dsimp only at hSw); have z0 := keepr t0 hSw; have z1 := keepr t1 hSw; have z2 := keepr t2 hSw; have z3 := keepr t3 hSw; have z4 := keepr g6 hSw; have z5 := keepr c2 hSw; have z6 := keepr c3 hSw; go_simp; try with_reducible rfl)
        simp only [Act.put, List.setIfInBounds_toArray, List.set]
        refine takeD (i := 4) (oi := _) (some 23) (v := ?_) rfl rfl (by kernel_rfl) (by kernel_rfl) (by kernel_rfl) (fun _ _ _ h => h) (Or.inl ⟨by rfl, ?_⟩) (by assumption) ?_
        rotate_left
        · (intro w hSw; (try dsimp only at hSw); have z0 := keepr t0 hSw; have z1 := keepr t1 hSw; have z2 := keepr t2 hSw; have z3 := keepr t3 hSw; have z4 := keepr g6 hSw; have z5 := keepr c2 hSw; have z6 := keepr c3 hSw; go_simp; try with_reducible rfl)
        simp only [Act.put, List.setIfInBounds_toArray, List.set]
        refine takeD (i := 5) (oi := _) (some 24) (v := ?_) rfl rfl (by kernel_rfl) (by kernel_rfl) (by kernel_rfl) (fun _ _ _ h => h) (Or.inl ⟨by rfl, ?_⟩) (by assumption) ?_
        rotate_left
        · (intro w hSw; (try dsimp only at hSw); have z0 := keepr t0 hSw; have z1 := keepr t1 hSw; have z2 := keepr t2 hSw; have z3 := keepr t3 hSw; have z4 := keepr g6 hSw; have z5 := keepr c2 hSw; have z6 := keepr c3 hSw; go_simp; try with_reducible rfl)
        simp only [Act.put, List.setIfInBounds_toArray, List.set]
        refine takeD (i := 6) (oi := _) (some 25) (v := ?_) rfl rfl (by kernel_rfl) (by kernel_rfl) (by kernel_rfl) (fun _ _ _ h => h) (Or.inl ⟨by rfl, ?_⟩) (by assumption) ?_
        rotate_left
        · (intro w hSw; (try dsimp only at hSw); have z0 := keepr t0 hSw; have z1 := keepr t1 hSw; have z2 := keepr t2 hSw; have z3 := keepr t3 hSw; have z4 := keepr g6 hSw; have z5 := keepr c2 hSw; have z6 := keepr c3 hSw; go_simp; try with_reducible rfl)
        simp only [Act.put, List.setIfInBounds_toArray, List.set]
        refine takeD (i := 7) (oi := _) (some 26) (v := ?_) rfl rfl (by kernel_rfl) (by kernel_rfl) (by kernel_rfl) (fun _ _ _ h => h) (Or.inl ⟨by rfl, ?_⟩) (by assumption) ?_
        rotate_left
        · (intro w hSw; (try dsimp only at hSw); have z0 := keepr t0 hSw; have z1 := keepr t1 hSw; have z2 := keepr t2 hSw; have z3 := keepr t3 hSw; have z4 := keepr g6 hSw; have z5 := keepr c2 hSw; have z6 := keepr c3 hSw; go_simp; try with_reducible rfl)
        simp only [Act.put, List.setIfInBounds_toArray, List.set]
        refine takeD (i := 8) (oi := _) (some 27) (v := ?_) rfl rfl (by kernel_rfl) (by kernel_rfl) (by kernel_rfl) (fun _ _ _ h => h) (Or.inl ⟨by rfl, ?_⟩) (by assumption) ?_
        rotate_left
        · (intro w hSw; (try dsimp only at hSw); have z0 := keepr t0 hSw; have z1 := keepr t1 hSw; have z2 := keepr t2 hSw; have z3 := keepr t3 hSw; have z4 := keepr g6 hSw; have z5 := keepr c2 hSw; have z6 := keepr c3 hSw; go_simp; try with_reducible rfl)
        simp only [Act.put, List.setIfInBounds_toArray, List.set]
        refine takeD (i := 9) (oi := _) (some 28) (v := ?_) rfl rfl (by kernel_rfl) (by kernel_rfl) (by kernel_rfl) (fun _ _ _ h => h) (Or.inl ⟨by rfl, ?_⟩) (by assumption) ?_
        rotate_left
        · (intro w hSw; (try dsimp only at hSw); have z0 := keepr t0 hSw; have z1 := keepr t1 hSw; have z2 := keepr t2 hSw; have z3 := keepr t3 hSw; have z4 := keepr g6 hSw; have z5 := keepr c2 hSw; have z6 := keepr c3 hSw; go_simp; try with_reducible rfl)
        simp only [Act.put, List.setIfInBounds_toArray, List.set]
        refine takeD (i := 10) (oi := _) (some 29) (v := ?_) rfl rfl (by kernel_rfl) (by kernel_rfl) (by kernel_rfl) (fun _ _ _ h => h) (Or.inl ⟨by rfl, ?_⟩) (by assumption) ?_
        rotate_left
        · (intro w hSw; (try dsimp only at hSw); have z0 := keepr t0 hSw; have z1 := keepr t1 hSw; have z2 := keepr t2 hSw; have z3 := keepr t3 hSw; have z4 := keepr g6 hSw; have z5 := keepr c2 hSw; have z6 := keepr c3 hSw; go_simp; try with_reducible rfl)
        simp only [Act.put, List.setIfInBounds_toArray, List.set]
        refine takeD (i := 11) (oi := _) (some 30) (v := ?_) rfl rfl (by kernel_rfl) (by kernel_rfl) (by kernel_rfl) (fun _ _ _ h => h) (Or.inl ⟨by rfl, ?_⟩) (by assumption) ?_
        rotate_left
        · (intro w hSw; (try dsimp only at hSw); have z0 := keepr t0 hSw; have z1 := keepr t1 hSw; have z2 := keepr t2 hSw; have z3 := keepr t3 hSw; have z4 := keepr g6 hSw; have z5 := keepr c2 hSw; have z6 := keepr c3 hSw; go_simp; try with_reducible rfl)
        simp only [Act.put, List.setIfInBounds_toArray, List.set]
        refine takeD (i := 12) (oi := _) (some 31) (v := ?_) rfl rfl (by kernel_rfl) (by kernel_rfl) (by kernel_rfl) (fun _ _ _ h => h) (Or.inl ⟨by rfl, ?_⟩) (by assumption) ?_
        rotate_left
        · (intro w hSw; (try dsimp only at hSw); have z0 := keepr t0 hSw; have z1 := keepr t1 hSw; have z2 := keepr t2 hSw; have z3 := keepr t3 hSw; have z4 := keepr g6 hSw; have z5 := keepr c2 hSw; have z6 := keepr c3 hSw; go_simp; try with_reducible rfl)
        simp only [Act.put, List.setIfInBounds_toArray, List.set]
        refine wpAnyH_ready (rs := [13, 14]) (by kernel_rfl) (by simp) ?_
        refine AllReadyH.cons (o := _) rfl (fun K hK => ?_) (AllReadyH.cons (o := _) rfl (fun K hK => ?_) AllReadyH.nil)
        · (go_simp; go_at_call 79; (with_reducible refine (kr _).mono ?_); rintro e w1 ⟨rfl, hb1⟩; have hHeld := hHeld.trans (hb1.mono hHeld.size))
          refine hK.out _ _ (by (try dsimp only); exact hHeld) (fun hHeld => ?_)
          clear hK K; try simp only [Act.put, List.setIfInBounds_toArray, List.set]
          have hgs := hHeld.size
          refine wpAnyH_ready (rs := [14]) (by kernel_rfl) (by simp) ?_
          refine AllReadyH.cons (o := _) rfl (fun K hK => ?_) AllReadyH.nil
          go_simp
          refine hK.out _ _ (by (try dsimp only); exact below_alloc hHeld hHeld.size _) (fun hHeld => ?_)
          clear hK K; try simp only [Act.put, List.setIfInBounds_toArray, List.set]
          have hbx := Blk.new w1 23 #[.int .i64 0, .int .i64 0, .int .i64 0, .int .i64 0]
          refine wpAnyH_ready (rs := [15]) (by kernel_rfl) (by simp) ?_
          refine AllReadyH.cons (o := _) rfl (fun K hK => ?_) AllReadyH.nil
          (refine wp_store_row 23 (.tmp 9) (.tmp 32) rfl w1.heap.size #[.int .i64 Q.x0, .int .i64 Q.y0, .int .i64 Q.x1, .int .i64 Q.y1] rfl rfl 23 #[.int .i64 0, .int .i64 0, .int .i64 0, .int .i64 0] hbx inr4 rfl (onr4 _ _ _ _) ?_)
          refine hK.out _ _ (by (try dsimp only); exact below_setRow hHeld (by first | exact hgs | simp) _) (fun hHeld => ?_)
          clear hK K; try simp only [Act.put, List.setIfInBounds_toArray]
          refine wpAnyH_done (by kernel_rfl) ?_ _
          go_wp2_with fail
          go_meet
          exact ⟨_, rfl, Lib.hid (HA.out.below hHeld), Lib.hid (setRow_heap _ _ _ _ _ _ hbx)⟩
        · go_simp
          refine hK.out _ _ (by (try dsimp only); exact below_alloc hHeld hHeld.size _) (fun hHeld => ?_)
          clear hK K; try simp only [Act.put, List.setIfInBounds_toArray, List.set]
          refine wpAnyH_ready (rs := [13]) (by kernel_rfl) (by simp) ?_
          refine AllReadyH.cons (o := _) rfl (fun K hK => ?_) AllReadyH.nil
          have hsz := hHeld.size
          have hbx := Blk.new wr.drew 23 #[.int .i64 0, .int .i64 0, .int .i64 0, .int .i64 0]
          (go_simp; go_at_call 79; (with_reducible refine (kr _).mono ?_); rintro e w1 ⟨rfl, hb1⟩; have hHeld := hHeld.trans (hb1.mono hHeld.size); have hbx := hbx.below hb1)
          refine hK.out _ _ (by (try dsimp only); exact hHeld) (fun hHeld => ?_)
          clear hK K; try simp only [Act.put, List.setIfInBounds_toArray, List.set]
          refine wpAnyH_ready (rs := [15]) (by kernel_rfl) (by simp) ?_
          refine AllReadyH.cons (o := _) rfl (fun K hK => ?_) AllReadyH.nil
          (refine wp_store_row 23 (.tmp 9) (.tmp 32) rfl wr.drew.heap.size #[.int .i64 Q.x0, .int .i64 Q.y0, .int .i64 Q.x1, .int .i64 Q.y1] rfl rfl 23 #[.int .i64 0, .int .i64 0, .int .i64 0, .int .i64 0] hbx inr4 rfl (onr4 _ _ _ _) ?_)
          refine hK.out _ _ (by (try dsimp only); exact below_setRow hHeld (by first | exact hgs | simp) _) (fun hHeld => ?_)
          clear hK K; try simp only [Act.put, List.setIfInBounds_toArray]
          refine wpAnyH_done (by kernel_rfl) ?_ _
          go_wp2_with fail
          go_meet
          exact ⟨_, rfl, Lib.hid (HA.out.below hHeld), Lib.hid (setRow_heap _ _ _ _ _ _ hbx)⟩

      case rest =>
        obtain ⟨gx, rfl, HA2, HX⟩ := hcut
        clear c0 c1 c2 c3 t0 t1 t2 t3 g6 kr HA
        obtain ⟨N, hN⟩ : ∃ x, x = pkN h p V k := ⟨_, rfl⟩
        rw [← hN] at HNX HBD ⊢
        obtain ⟨L, hL⟩ : ∃ x, x = (p.lev + 1).toNat := ⟨_, rfl⟩
        rw [← hL] at HNX
        have HL := Lib.hid (show (L : Int) = p.lev + 1 ∧ L ≤ 6 by have := HPO.out.lev; omega)
        have HNB := Lib.hid (show 0 ≤ N ∧ N ≤ 402653184 by have := HBD.out; have := HFEW.out; omega)
        have HPR := Lib.hid (fun q : Nat => pkR_bd HCM.out HVV.out N q (p := p))
        clear hN hL
        go_upto_region 7 with fail
        go_loopw [7, 10] (fun v7 v10 wr => ∃ q : Nat, q ≤ L ∧ v10 = .int .i64 q ∧ v7 = .int .i64 (pkR p V C N q) ∧ Hid (PkS W h p V (some ⟨b, off, none⟩) s s2 mh m m2 wr) ∧ Hid (Blk wr gx 23 #[.int .i64 Q.x0, .int .i64 Q.y0, .int .i64 Q.x1, .int .i64 Q.y1])) (fun _ v _ => L - (intOf v).toNat)
        case atStart => exact ⟨0, Nat.zero_le _, rfl, rfl, HA2, HX⟩
        case round =>
          obtain ⟨q, hq, rfl, rfl, HB, HX1⟩ := hrel
          clear HA2 HX
          by_cases hql : q < L
          case pos =>
            have hqi : (q : Int) ≤ p.lev := by have := HL.out; omega
            have w3' : IntKind.i64.wrap ((q : Int) + 1) = (q : Int) + 1 := IntWalk.i64_in _ (by have := HL.out; omega)
            have hpr := HPO.out.pre q (by omega) hqi
            have kp := rprec_c p s s2 m m2 q wr HB.out.hP
            have kre := fun w : World => rreso Q p.lev q w
            have hRR : Hp.fRes p q C V = Hp.resR Q p.lev q := by rw [HQ.out]; rfl
            have hvr := fres_v HCM.out HVV.out q (p := p)
            have hnx := pkR_next p V C N q
            have hb1 := HPR.out (q + 1)
            have hb0 := HPR.out q
            rw [hRR] at hvr hnx
            obtain ⟨R, hR⟩ : ∃ x, x = Hp.resR Q p.lev q := ⟨_, rfl⟩
            rw [← hR] at kre hvr hnx
            obtain ⟨E, hE⟩ : ∃ x, x = Hp.precM p q := ⟨_, rfl⟩
            rw [← hE] at kp hpr hnx
            have KG := Lib.hid (fun w : World => rgrid_c R E.x E.y w hvr (by omega) (by omega))
            have eg : Hp.gridN R ⟨E.x, E.y⟩ = Hp.gridN R E := rfl
            rw [eg] at KG
            obtain ⟨G, hG⟩ : ∃ x, x = Hp.gridN R E := ⟨_, rfl⟩
            rw [← hG] at KG hnx
            have ws : IntKind.i64.wrap (pkR p V C N q + G) = pkR p V C N (q + 1) := by
              rw [hnx]; exact IntWalk.i64_in _ (by have := HNB.out; have := HL.out; omega)
            have HWS := Lib.hid ws
            have KRE := Lib.hid (show ∀ w : World, Calls Try.prog 86 #[.agg #[.int .i64 Q.x0, .int .i64 Q.y0, .int .i64 Q.x1, .int .i64 Q.y1], .int .i64 p.lev, .int .i64 q] w fun e w' => e = .returned (.agg #[.int .i64 R.x0, .int .i64 R.y0, .int .i64 R.x1, .int .i64 R.y1]) ∧ Below w.heap.size w w' from kre)
            clear hRR hvr hb1 hb0 hR hE eg hG hnx ws kre hpr
            generalize pkR p V C N q = M0 at *
            generalize hM1 : pkR p V C N (q + 1) = M1 at *
            have HM1 := Lib.hid hM1
            clear hM1
            have p1 := HB.out.bp.get 1 (v := .int .i64 p.lev) rfl
            go_upto_region 9 with fail
            clear p1
            go_upto_region 10 with (first | (refine wpList_load_mid rfl 35 (.tmp 4) rfl (W.heap.size + 1) 0 rfl (pvA p s m s2 m2).toList _ HB.out.bp.range Try.underlying35 rfl info19 ?_) | (go_at_call 14; (with_reducible refine kp.mono ?_); rintro e w3 ⟨rfl, hb⟩; have HB3 := Lib.hid (HB.out.below hb); have HX3 := Lib.hid (HX1.out.below hb); clear hb) | fail)
            obtain ⟨wd, hwd⟩ : ∃ x, x = w3.alloc (.cells #[.int .i64 E.x, .int .i64 E.y] 41) := ⟨_, rfl⟩
            obtain ⟨ge, hge⟩ : ∃ x, w3.heap.size = x := ⟨_, rfl⟩
            have hba : Below w3.heap.size w3 wd := by rw [hwd]; exact below_alloc (Below.refl _ _) (Nat.le_refl _) _
            have HBD1 := Lib.hid (HB3.out.below hba)
            have HXD := Lib.hid (HX3.out.below hba)
            have HE := Lib.hid (show Blk wd ge 41 #[.int .i64 E.x, .int .i64 E.y] by rw [hwd, ← hge]; exact Blk.new _ _ _)
            rw [hge, ← hwd]
            clear hge hwd hba HB HX1 HB3 HX3 kp
            obtain ⟨t0, t1, t2, t3⟩ := HXD.out.four
            obtain ⟨t4, t5⟩ := HE.out.two
            have t6 := HBD1.out.bp.get 1 (v := .int .i64 p.lev) rfl
            refine wp_region_held_drew (S := (fun w => Below wd.heap.size wd w)) (by kernel_rfl) (by (try dsimp only); exact (Below.refl _ _).drew) (fun hHeld => ?_)
            refine takeD (i := 0) (oi := _) (some 42) (v := ?_) rfl rfl (by kernel_rfl) (by kernel_rfl) (by kernel_rfl) (fun _ _ _ h => h) (Or.inl ⟨by rfl, ?_⟩) (by assumption) ?_
            rotate_left
            · (intro w hSw; (try dsimp only at hSw); have z0 := keepr t0 hSw; have z1 := keepr t1 hSw; have z2 := keepr t2 hSw; have z3 := keepr t3 hSw; have z4 := keepr t4 hSw; have z5 := keepr t5 hSw; have z6 := keepr t6 hSw; go_simp; try with_reducible rfl)
            simp only [Act.put, List.setIfInBounds_toArray, List.set]
            refine takeD (i := 1) (oi := _) (some 43) (v := ?_) rfl rfl (by kernel_rfl) (by kernel_rfl) (by kernel_rfl) (fun _ _ _ h => h) (Or.inl ⟨by rfl, ?_⟩) (by assumption) ?_
            rotate_left
            · (intro w hSw; (try dsimp only at hSw); have z0 := keepr t0 hSw; have z1 := keepr t1 hSw; have z2 := keepr t2 hSw; have z3 := keepr t3 hSw; have z4 := keepr t4 hSw; have z5 := keepr t5 hSw; have z6 := keepr t6 hSw; go_simp; try with_reducible rfl)
            simp only [Act.put, List.setIfInBounds_toArray, List.set]
            refine takeD (i := 2) (oi := _) (some 44) (v := ?_) rfl rfl (by kernel_rfl) (by kernel_rfl) (by kernel_rfl) (fun _ _ _ h => h) (Or.inl ⟨by rfl, ?_⟩) (by assumption) ?_
            rotate_left
            · (intro w hSw; (try dsimp only at hSw); have z0 := keepr t0 hSw; have z1 := keepr t1 hSw; have z2 := keepr t2 hSw; have z3 := keepr t3 hSw; have z4 := keepr t4 hSw; have z5 := keepr t5 hSw; have z6 := keepr t6 hSw; go_simp; try with_reducible rfl)
            simp only [Act.put, List.setIfInBounds_toArray, List.set]
            refine takeD (i := 3) (oi := _) (some 45) (v := ?_) rfl rfl (by kernel_rfl) (by kernel_rfl) (by kernel_rfl) (fun _ _ _ h => h) (Or.inl ⟨by rfl, ?_⟩) (by assumption) ?_
            rotate_left
            · (intro w hSw; (try dsimp only at hSw); have z0 := keepr t0 hSw; have z1 := keepr t1 hSw; have z2 := keepr t2 hSw; have z3 := keepr t3 hSw; have z4 := keepr t4 hSw; have z5 := keepr t5 hSw; have z6 := keepr t6 hSw; go_simp; try with_reducible rfl)
            simp only [Act.put, List.setIfInBounds_toArray, List.set]
            refine takeD (i := 4) (oi := _) (some 46) (v := ?_) rfl rfl (by kernel_rfl) (by kernel_rfl) (by kernel_rfl) (fun _ _ _ h => h) (Or.inl ⟨by rfl, ?_⟩) (by assumption) ?_
            rotate_left
            · (intro w hSw; (try dsimp only at hSw); have z0 := keepr t0 hSw; have z1 := keepr t1 hSw; have z2 := keepr t2 hSw; have z3 := keepr t3 hSw; have z4 := keepr t4 hSw; have z5 := keepr t5 hSw; have z6 := keepr t6 hSw; go_simp; try with_reducible rfl)
            simp only [Act.put, List.setIfInBounds_toArray, List.set]
            refine takeD (i := 6) (oi := _) (some 48) (v := ?_) rfl rfl (by kernel_rfl) (by kernel_rfl) (by kernel_rfl) (fun _ _ _ h => h) (Or.inl ⟨by rfl, ?_⟩) (by assumption) ?_
            rotate_left
            · (intro w hSw; (try dsimp only at hSw); have z0 := keepr t0 hSw; have z1 := keepr t1 hSw; have z2 := keepr t2 hSw; have z3 := keepr t3 hSw; have z4 := keepr t4 hSw; have z5 := keepr t5 hSw; have z6 := keepr t6 hSw; go_simp; try with_reducible rfl)
            simp only [Act.put, List.setIfInBounds_toArray, List.set]
            refine takeD (i := 7) (oi := _) (some 49) (v := ?_) rfl rfl (by kernel_rfl) (by kernel_rfl) (by kernel_rfl) (fun _ _ _ h => h) (Or.inl ⟨by rfl, ?_⟩) (by assumption) ?_
            rotate_left
            · (intro w hSw; (try dsimp only at hSw); have z0 := keepr t0 hSw; have z1 := keepr t1 hSw; have z2 := keepr t2 hSw; have z3 := keepr t3 hSw; have z4 := keepr t4 hSw; have z5 := keepr t5 hSw; have z6 := keepr t6 hSw; go_simp; try with_reducible rfl)
            simp only [Act.put, List.setIfInBounds_toArray, List.set]
            refine takeD (i := 8) (oi := _) (some 50) (v := ?_) rfl rfl (by kernel_rfl) (by kernel_rfl) (by kernel_rfl) (fun _ _ _ h => h) (Or.inl ⟨by rfl, ?_⟩) (by assumption) ?_
            rotate_left
            · (intro w hSw; (try dsimp only at hSw); have z0 := keepr t0 hSw; have z1 := keepr t1 hSw; have z2 := keepr t2 hSw; have z3 := keepr t3 hSw; have z4 := keepr t4 hSw; have z5 := keepr t5 hSw; have z6 := keepr t6 hSw; go_simp; try with_reducible rfl)
            simp only [Act.put, List.setIfInBounds_toArray, List.set]
            refine takeD (i := 9) (oi := _) (some 51) (v := ?_) rfl rfl (by kernel_rfl) (by kernel_rfl) (by kernel_rfl) (fun _ _ _ h => h) (Or.inl ⟨by rfl, ?_⟩) (by assumption) ?_
            rotate_left
            · (intro w hSw; (try dsimp only at hSw); have z0 := keepr t0 hSw; have z1 := keepr t1 hSw; have z2 := keepr t2 hSw; have z3 := keepr t3 hSw; have z4 := keepr t4 hSw; have z5 := keepr t5 hSw; have z6 := keepr t6 hSw; go_simp; try with_reducible rfl)
            simp only [Act.put, List.setIfInBounds_toArray, List.set]
            refine wpAnyH_ready (rs := [5]) (by kernel_rfl) (by simp) ?_
            refine AllReadyH.cons (o := _) rfl (fun K hK => ?_) AllReadyH.nil
            (go_simp; go_at_call 86; (with_reducible refine (KRE.out _).mono ?_); rintro e wn ⟨rfl, hbn⟩)
            refine hK.out _ _ (by (try dsimp only); first | exact hHeld | exact hHeld.trans (hbn.mono hHeld.size)) (fun hHeld => ?_)
            clear hK K
            try simp only [Act.put, List.setIfInBounds_toArray, List.set]
            refine wpAnyH_ready (rs := [10]) (by kernel_rfl) (by simp) ?_
            refine AllReadyH.cons (o := _) rfl (fun K hK => ?_) AllReadyH.nil
            (go_simp; go_at_call 85; (with_reducible refine (KG.out _).mono ?_); rintro e wn ⟨rfl, hbn⟩)
            refine hK.out _ _ (by (try dsimp only); first | exact hHeld | exact hHeld.trans (hbn.mono hHeld.size)) (fun hHeld => ?_)
            clear hK K
            try simp only [Act.put, List.setIfInBounds_toArray, List.set]
            refine takeD (i := 11) (oi := _) (some 53) (v := ?_) rfl rfl (by kernel_rfl) (by kernel_rfl) (by kernel_rfl) (fun _ _ _ h => h) (Or.inl ⟨by rfl, ?_⟩) (by assumption) ?_
            rotate_left
            · (intro w hSw; (try dsimp only at hSw); have z0 := keepr t0 hSw; have z1 := keepr t1 hSw; have z2 := keepr t2 hSw; have z3 := keepr t3 hSw; have z4 := keepr t4 hSw; have z5 := keepr t5 hSw; have z6 := keepr t6 hSw; go_simp; try with_reducible rfl)
            simp only [Act.put, List.setIfInBounds_toArray, List.set]
            refine takeD (i := 12) (oi := _) (some 7) (v := ?_) rfl rfl (by kernel_rfl) (by kernel_rfl) (by kernel_rfl) (fun _ _ _ h => h) (Or.inl ⟨by rfl, ?_⟩) (by assumption) ?_
            rotate_left
            · (intro w hSw; (try dsimp only at hSw); have z0 := keepr t0 hSw; have z1 := keepr t1 hSw; have z2 := keepr t2 hSw; have z3 := keepr t3 hSw; have z4 := keepr t4 hSw; have z5 := keepr t5 hSw; have z6 := keepr t6 hSw; go_simp; try with_reducible rfl)
            simp only [Act.put, List.setIfInBounds_toArray, List.set]
            refine wpAnyH_done (by kernel_rfl) ?_ _

            have HB4 := Lib.hid (HBD1.out.below hHeld)
            have HX4 := Lib.hid (HXD.out.below hHeld)
            go_wp2_with fail
            go_roundw
            case rel => exact ⟨q + 1, by omega, by go_num, by rw [HM1.out, HWS.out], HB4, HX4⟩
            case measure => simp [intOf]; omega
          case neg =>
            obtain rfl : q = L := by omega
            have hqi : ¬ (q : Int) ≤ p.lev := by have := HL.out; omega
            have p1 := HB.out.bp.get 1 (v := .int .i64 p.lev) rfl
            go_wp2_with fail
            go_roundw
            case rel => exact ⟨k + 1, by omega, by go_num, by rw [HNX.out], HB⟩
            case measure => simp [intOf]; omega
    case neg =>
      obtain rfl : k = h.cs.length := by omega
      have hpk : pkN h p V h.cs.length = Hp.pkM h p V := by unfold pkN Hp.pkM; rw [List.take_length]
      have hbd := pkN_bd HPO.out HVV.out (Nat.le_refl h.cs.length)
      rw [hpk] at hbd ⊢
      have hfw := HFEW.out
      have hly := HPO.out.lay
      have hmw : wrap64 (Hp.pkM h p V * p.lay) = Hp.pkM h p V * p.lay := by
        have p1 := Int.mul_nonneg hbd.1 (show 0 ≤ p.lay by omega)
        have p2 := Int.mul_le_mul (show Hp.pkM h p V ≤ 402653184 by omega) hly.2 (by omega) (by decide)
        exact IntWalk.wrap64_in _ ⟨by omega, by omega⟩
      have hmw2 : IntKind.i64.wrap (Hp.pkM h p V * p.lay) = Hp.pkM h p V * p.lay := by rw [IntWalk.i64_left]; exact hmw
      have p7 := HA.out.bp.get 7 (v := .int .i64 p.lay) rfl
      clear hbd hly hfw hpk
      obtain ⟨-, -, -, -, -, -, g6⟩ := HA.out.bh.hd
      go_wp2_with fail
      go_ret
      exact ⟨rfl, HA.out.bl⟩


theorem fban_v {p : Hp.Ps} {V : Pl.R} {c : Hp.Cm} (hc : (1 ≤ c.dx ∧ c.dx ≤ 4096) ∧ 1 ≤ c.dy ∧ c.dy ≤ 4096) (hv : Pl.validB V.x0 V.y0 V.x1 V.y1 = true) (q : Int) : Pl.validB (Hp.fBan p q c V).x0 (Hp.fBan p q c V).y0 (Hp.fBan p q c V).x1 (Hp.fBan p q c V).y1 = true :=
  ((Hp.sep_smp hc.1 hc.2).comp Hp.sep_ban : Hp.Sep (Hp.fBan p q c)).v V hv
def bkG (p : Hp.Ps) (V : Pl.R) (c : Hp.Cm) (i : Int) : Int := Hp.gridN (Hp.fBan p i c V) (Hp.bexM p (Hp.rsI i))
def bkR (p : Hp.Ps) (V : Pl.R) (c : Hp.Cm) (n : Int) (q : Nat) : Int := (List.range q).foldl (fun n (i : Nat) => max n (bkG p V c i)) n
def bkN (h : Hp.Hd) (p : Hp.Ps) (V : Pl.R) (k : Nat) : Int := (h.cs.take k).foldl (fun n c => bkR p V c n (3 * p.lev + 1).toNat) 0
theorem bkN_next (h : Hp.Hd) (p : Hp.Ps) (V : Pl.R) {k : Nat} (hk : k < h.cs.length) : bkN h p V (k + 1) = bkR p V h.cs[k] (bkN h p V k) (3 * p.lev + 1).toNat := by
  unfold bkN
  rw [List.take_succ_eq_append_getElem hk, List.foldl_append]
  rfl
theorem bkR_next (p : Hp.Ps) (V : Pl.R) (c : Hp.Cm) (n : Int) (q : Nat) : bkR p V c n (q + 1) = max (bkR p V c n q) (bkG p V c q) := by
  unfold bkR
  rw [List.range_succ, List.foldl_append]
  rfl
theorem bex_eq (p : Hp.Ps) {r : Int} (h0 : 0 ≤ r) : Hp.bexM p r = ⟨min p.bx ((Hp.precM p r).x - min r 1), min p.yb ((Hp.precM p r).y - min r 1)⟩ := by
  unfold Hp.bexM
  split
  · rw [show min r 1 = 1 by omega]
  · rw [show min r 1 = 0 by omega]; simp
set_option maxHeartbeats 16000000 in
theorem rbk_c (h : Hp.Hd) (p : Hp.Ps) (V : Pl.R) (P : POk h p) (hv : Pl.validB V.x0 V.y0 V.x1 V.y1 = true) (sh s s2 : Option Addr) (mh m m2 : Nat) (W : World) (hC : HoldsC W sh h.cs) (hP : HoldsP W s p.prec) :
    Calls Try.prog 40 #[.agg (hvA h sh mh), .agg (pvA p s m s2 m2), .agg #[.int .i64 V.x0, .int .i64 V.y0, .int .i64 V.x1, .int .i64 V.y1]] W fun e w' => e = .returned (.int .i64 (bkN h p V h.cs.length)) ∧ Below W.heap.size W w' := by
  obtain ⟨WB, hWB⟩ : ∃ ww, ww = (((W.alloc (.cells (hvA h sh mh) 26)).alloc (.cells (pvA p s m s2 m2) 35)).alloc (.cells #[.int .i64 V.x0, .int .i64 V.y0, .int .i64 V.x1, .int .i64 V.y1] 23)) := ⟨_, rfl⟩
  have hb0 : Below W.heap.size W WB := by rw [hWB]; exact below_alloc (below_alloc (below_alloc (Below.refl _ W) (Nat.le_refl _) _) (by simp) _) (by simp <;> omega) _
  have n1 := Blk.new W 26 (hvA h sh mh)
  have n2' := Blk.new (W.alloc (.cells (hvA h sh mh) 26)) 35 (pvA p s m s2 m2)
  have n3 := Blk.new ((W.alloc (.cells (hvA h sh mh) 26)).alloc (.cells (pvA p s m s2 m2) 35)) 23 #[.int .i64 V.x0, .int .i64 V.y0, .int .i64 V.x1, .int .i64 V.y1]
  have q1 : Blk WB W.heap.size 26 (hvA h sh mh) := by rw [hWB]; exact (n1.alloc _).alloc _
  have q2 : Blk WB (W.heap.size + 1) 35 (pvA p s m s2 m2) := by rw [hWB]; exact (show Blk _ (W.heap.size + 1) _ _ by simpa using n2').alloc _
  have q3 : Blk WB (W.heap.size + 2) 23 #[.int .i64 V.x0, .int .i64 V.y0, .int .i64 V.x1, .int .i64 V.y1] := by rw [hWB]; exact (show Blk _ (W.heap.size + 2) _ _ by simpa using n3)
  have A0 := Lib.hid (show PkS W h p V sh s s2 mh m m2 WB from ⟨hb0, q1, q2, q3, hC.below hb0 (Nat.le_refl _), hP.below hb0 (Nat.le_refl _)⟩)
  have HW2 := hWB
  have HPO := Lib.hid P
  have HVV := Lib.hid hv
  have HFEW := Lib.hid P.few
  clear n1 n2' n3 q1 q2 q3 hb0 hWB hC hP hv P
  show Calls Try.prog 40 #[.agg #[.int .i64 h.a, .int .i64 h.b, .int .i64 h.c, .int .i64 h.d, .int .i64 h.tw, .int .i64 h.th, .slice sh h.cs.length mh], .agg #[.int .i64 p.kern, .int .i64 p.lev, .int .i64 p.col, .int .i64 p.bx, .int .i64 p.yb, .slice s p.prec.length m, .int .i64 p.ord, .int .i64 p.lay, .bool p.m0, .bool p.m1, .bool p.m2, .bool p.m3, .bool p.m4, .bool p.dv, .bool p.sy, .bool p.fe, .slice s2 p.steps.length m2, .int .i64 p.dead, .int .i64 p.sh], .agg #[.int .i64 V.x0, .int .i64 V.y0, .int .i64 V.x1, .int .i64 V.y1]] W _
  unfold hvA pvA at HW2
  go_enter Try.func40, Try.ntmps40
  go_upto_region 1 with fail
  rw [← HW2]
  clear HW2
  go_upto_region 3 with fail
  go_loopw [7, 8] (fun v7 v8 wr => ∃ k : Nat, k ≤ h.cs.length ∧ v8 = .int .i64 k ∧ v7 = .int .i64 (bkN h p V k) ∧ Hid (PkS W h p V sh s s2 mh m m2 wr)) (fun _ v _ => h.cs.length - (intOf v).toNat)
  case atStart => exact ⟨0, Nat.zero_le _, rfl, rfl, A0⟩
  case round =>
    obtain ⟨k, hk, rfl, rfl, HA⟩ := hrel
    clear A0
    by_cases hlt : k < h.cs.length
    case pos =>
      rcases HA.out.hC with z | ⟨b, off, rfl, hr⟩
      · rw [z] at hlt; simp at hlt
      obtain ⟨c0, c1, c2, c3⟩ := hr k hlt
      have hki : (k : Int) < (h.cs.length : Int) := by omega
      have w2' : IntKind.i64.wrap ((k : Int) + 1) = (k : Int) + 1 := IntWalk.i64_in _ (by have := HFEW.out; omega)
      have HCM := Lib.hid (HPO.out.cms _ (List.getElem_mem hlt))
      have HNX := Lib.hid (bkN_next h p V hlt)
      have kr := fun w : World => red_r V.x0 V.y0 V.x1 V.y1 h.cs[k].dx h.cs[k].dy w
      have er : Pl.redR V.x0 V.y0 V.x1 V.y1 h.cs[k].dx h.cs[k].dy = Hp.smp V h.cs[k] := rfl
      rw [er] at kr
      clear er
      obtain ⟨Q, hQ⟩ : ∃ x, x = Hp.smp V h.cs[k] := ⟨_, rfl⟩
      rw [← hQ] at kr
      obtain ⟨C, hCC⟩ : ∃ x, x = h.cs[k] := ⟨_, rfl⟩
      rw [← hCC] at kr HCM HNX hQ c0 c1 c2 c3
      have HQ := Lib.hid hQ
      clear hr hCC hQ
      obtain ⟨t0, t1, t2, t3⟩ := HA.out.bt.four
      obtain ⟨-, -, -, -, -, -, g6⟩ := HA.out.bh.hd
      go_upto_region 5 with fail
      go_cut [9] (fun s9 wx => ∃ gx, s9 = .pointer (some ⟨gx, 0, none⟩) ∧ Hid (PkS W h p V (some ⟨b, off, none⟩) s s2 mh m m2 wx) ∧ Hid (Blk wx gx 23 #[.int .i64 Q.x0, .int .i64 Q.y0, .int .i64 Q.x1, .int .i64 Q.y1]))
      case first =>
        refine wp_region_held_drew (S := (fun w => Below wr.heap.size wr w)) (by kernel_rfl) (by (try dsimp only); exact (Below.refl _ _).drew) (fun hHeld => ?_)
        refine takeD (i := 0) (oi := _) (some 20) (v := ?_) rfl rfl (by kernel_rfl) (by kernel_rfl) (by kernel_rfl) (fun _ _ _ h => h) (Or.inl ⟨by rfl, ?_⟩) (by assumption) ?_
        rotate_left
        · (intro w hSw; (try dsimp only at hSw); have z0 := keepr t0 hSw; have z1 := keepr t1 hSw; have z2 := keepr t2 hSw; have z3 := keepr t3 hSw; have z4 := keepr g6 hSw; have z5 := keepr c2 hSw; have z6 := keepr c3 hSw; go_simp; try with_reducible rfl)
        simp only [Act.put, List.setIfInBounds_toArray, List.set]
        refine takeD (i := 1) (oi := _) (some 21) (v := ?_) rfl rfl (by kernel_rfl) (by kernel_rfl) (by kernel_rfl) (fun _ _ _ h => h) (Or.inl ⟨by rfl, ?_⟩) (by assumption) ?_
        rotate_left
        · (intro w hSw; (try dsimp only at hSw); have z0 := keepr t0 hSw; have z1 := keepr t1 hSw; have z2 := keepr t2 hSw; have z3 := keepr t3 hSw; have z4 := keepr g6 hSw; have z5 := keepr c2 hSw; have z6 := keepr c3 hSw; go_simp; try with_reducible rfl)
        simp only [Act.put, List.setIfInBounds_toArray, List.set]
        refine takeD (i := 2) (oi := _) (some 22) (v := ?_) rfl rfl (by kernel_rfl) (by kernel_rfl) (by kernel_rfl) (fun _ _ _ h => h) (Or.inl ⟨by rfl, ?_⟩) (by assumption) ?_
        rotate_left
        · (intro w hSw; (try dsimp only at hSw); have z0 := keepr t0 hSw; have z1 := keepr t1 hSw; have z2 := keepr t2 hSw; have z3 := keepr t3 hSw; have z4 := keepr g6 hSw; have z5 := keepr c2 hSw; have z6 := keepr c3 hSw; go_simp; try with_reducible rfl)
        simp only [Act.put, List.setIfInBounds_toArray, List.set]
        refine takeD (i := 3) (oi := _) (some 23) (v := ?_) rfl rfl (by kernel_rfl) (by kernel_rfl) (by kernel_rfl) (fun _ _ _ h => h) (Or.inl ⟨by rfl, ?_⟩) (by assumption) ?_
        rotate_left
        · (intro w hSw; (try dsimp only at hSw); have z0 := keepr t0 hSw; have z1 := keepr t1 hSw; have z2 := keepr t2 hSw; have z3 := keepr t3 hSw; have z4 := keepr g6 hSw; have z5 := keepr c2 hSw; have z6 := keepr c3 hSw; go_simp; try with_reducible rfl)
        simp only [Act.put, List.setIfInBounds_toArray, List.set]
        refine takeD (i := 4) (oi := _) (some 24) (v := ?_) rfl rfl (by kernel_rfl) (by kernel_rfl) (by kernel_rfl) (fun _ _ _ h => h) (Or.inl ⟨by rfl, ?_⟩) (by assumption) ?_
        rotate_left
        · (intro w hSw; (try dsimp only at hSw); have z0 := keepr t0 hSw; have z1 := keepr t1 hSw; have z2 := keepr t2 hSw; have z3 := keepr t3 hSw; have z4 := keepr g6 hSw; have z5 := keepr c2 hSw; have z6 := keepr c3 hSw; go_simp; try with_reducible rfl)
        simp only [Act.put, List.setIfInBounds_toArray, List.set]
        refine takeD (i := 5) (oi := _) (some 25) (v := ?_) rfl rfl (by kernel_rfl) (by kernel_rfl) (by kernel_rfl) (fun _ _ _ h => h) (Or.inl ⟨by rfl, ?_⟩) (by assumption) ?_
        rotate_left
        · (intro w hSw; (try dsimp only at hSw); have z0 := keepr t0 hSw; have z1 := keepr t1 hSw; have z2 := keepr t2 hSw; have z3 := keepr t3 hSw; have z4 := keepr g6 hSw; have z5 := keepr c2 hSw; have z6 := keepr c3 hSw; go_simp; try with_reducible rfl)
        simp only [Act.put, List.setIfInBounds_toArray, List.set]
        refine takeD (i := 6) (oi := _) (some 26) (v := ?_) rfl rfl (by kernel_rfl) (by kernel_rfl) (by kernel_rfl) (fun _ _ _ h => h) (Or.inl ⟨by rfl, ?_⟩) (by assumption) ?_
        rotate_left
        · (intro w hSw; (try dsimp only at hSw); have z0 := keepr t0 hSw; have z1 := keepr t1 hSw; have z2 := keepr t2 hSw; have z3 := keepr t3 hSw; have z4 := keepr g6 hSw; have z5 := keepr c2 hSw; have z6 := keepr c3 hSw; go_simp; try with_reducible rfl)
        simp only [Act.put, List.setIfInBounds_toArray, List.set]
        refine takeD (i := 7) (oi := _) (some 27) (v := ?_) rfl rfl (by kernel_rfl) (by kernel_rfl) (by kernel_rfl) (fun _ _ _ h => h) (Or.inl ⟨by rfl, ?_⟩) (by assumption) ?_
        rotate_left
        · (intro w hSw; (try dsimp only at hSw); have z0 := keepr t0 hSw; have z1 := keepr t1 hSw; have z2 := keepr t2 hSw; have z3 := keepr t3 hSw; have z4 := keepr g6 hSw; have z5 := keepr c2 hSw; have z6 := keepr c3 hSw; go_simp; try with_reducible rfl)
        simp only [Act.put, List.setIfInBounds_toArray, List.set]
        refine takeD (i := 8) (oi := _) (some 28) (v := ?_) rfl rfl (by kernel_rfl) (by kernel_rfl) (by kernel_rfl) (fun _ _ _ h => h) (Or.inl ⟨by rfl, ?_⟩) (by assumption) ?_
        rotate_left
        · (intro w hSw; (try dsimp only at hSw); have z0 := keepr t0 hSw; have z1 := keepr t1 hSw; have z2 := keepr t2 hSw; have z3 := keepr t3 hSw; have z4 := keepr g6 hSw; have z5 := keepr c2 hSw; have z6 := keepr c3 hSw; go_simp; try with_reducible rfl)
        simp only [Act.put, List.setIfInBounds_toArray, List.set]
        refine takeD (i := 9) (oi := _) (some 29) (v := ?_) rfl rfl (by kernel_rfl) (by kernel_rfl) (by kernel_rfl) (fun _ _ _ h => h) (Or.inl ⟨by rfl, ?_⟩) (by assumption) ?_
        rotate_left
        · (intro w hSw; (try dsimp only at hSw); have z0 := keepr t0 hSw; have z1 := keepr t1 hSw; have z2 := keepr t2 hSw; have z3 := keepr t3 hSw; have z4 := keepr g6 hSw; have z5 := keepr c2 hSw; have z6 := keepr c3 hSw; go_simp; try with_reducible rfl)
        simp only [Act.put, List.setIfInBounds_toArray, List.set]
        refine takeD (i := 10) (oi := _) (some 30) (v := ?_) rfl rfl (by kernel_rfl) (by kernel_rfl) (by kernel_rfl) (fun _ _ _ h => h) (Or.inl ⟨by rfl, ?_⟩) (by assumption) ?_
        rotate_left
        · (intro w hSw; (try dsimp only at hSw); have z0 := keepr t0 hSw; have z1 := keepr t1 hSw; have z2 := keepr t2 hSw; have z3 := keepr t3 hSw; have z4 := keepr g6 hSw; have z5 := keepr c2 hSw; have z6 := keepr c3 hSw; go_simp; try with_reducible rfl)
        simp only [Act.put, List.setIfInBounds_toArray, List.set]
        refine takeD (i := 11) (oi := _) (some 31) (v := ?_) rfl rfl (by kernel_rfl) (by kernel_rfl) (by kernel_rfl) (fun _ _ _ h => h) (Or.inl ⟨by rfl, ?_⟩) (by assumption) ?_
        rotate_left
        · (intro w hSw; (try dsimp only at hSw); have z0 := keepr t0 hSw; have z1 := keepr t1 hSw; have z2 := keepr t2 hSw; have z3 := keepr t3 hSw; have z4 := keepr g6 hSw; have z5 := keepr c2 hSw; have z6 := keepr c3 hSw; go_simp; try with_reducible rfl)
        simp only [Act.put, List.setIfInBounds_toArray, List.set]
        refine takeD (i := 12) (oi := _) (some 32) (v := ?_) rfl rfl (by kernel_rfl) (by kernel_rfl) (by kernel_rfl) (fun _ _ _ h => h) (Or.inl ⟨by rfl, ?_⟩) (by assumption) ?_
        rotate_left
        · (intro w hSw; (try dsimp only at hSw); have z0 := keepr t0 hSw; have z1 := keepr t1 hSw; have z2 := keepr t2 hSw; have z3 := keepr t3 hSw; have z4 := keepr g6 hSw; have z5 := keepr c2 hSw; have z6 := keepr c3 hSw; go_simp; try with_reducible rfl)
        simp only [Act.put, List.setIfInBounds_toArray, List.set]
        refine wpAnyH_ready (rs := [13, 14]) (by kernel_rfl) (by simp) ?_
        refine AllReadyH.cons (o := _) rfl (fun K hK => ?_) (AllReadyH.cons (o := _) rfl (fun K hK => ?_) AllReadyH.nil)
        · (go_simp; go_at_call 79; (with_reducible refine (kr _).mono ?_); rintro e w1 ⟨rfl, hb1⟩; have hHeld := hHeld.trans (hb1.mono hHeld.size))
          refine hK.out _ _ (by (try dsimp only); exact hHeld) (fun hHeld => ?_)
          clear hK K; try simp only [Act.put, List.setIfInBounds_toArray, List.set]
          have hgs := hHeld.size
          refine wpAnyH_ready (rs := [14]) (by kernel_rfl) (by simp) ?_
          refine AllReadyH.cons (o := _) rfl (fun K hK => ?_) AllReadyH.nil
          go_simp
          refine hK.out _ _ (by (try dsimp only); exact below_alloc hHeld hHeld.size _) (fun hHeld => ?_)
          clear hK K; try simp only [Act.put, List.setIfInBounds_toArray, List.set]
          have hbx := Blk.new w1 23 #[.int .i64 0, .int .i64 0, .int .i64 0, .int .i64 0]
          refine wpAnyH_ready (rs := [15]) (by kernel_rfl) (by simp) ?_
          refine AllReadyH.cons (o := _) rfl (fun K hK => ?_) AllReadyH.nil
          (refine wp_store_row 23 (.tmp 9) (.tmp 33) rfl w1.heap.size #[.int .i64 Q.x0, .int .i64 Q.y0, .int .i64 Q.x1, .int .i64 Q.y1] rfl rfl 23 #[.int .i64 0, .int .i64 0, .int .i64 0, .int .i64 0] hbx inr4 rfl (onr4 _ _ _ _) ?_)
          refine hK.out _ _ (by (try dsimp only); exact below_setRow hHeld (by first | exact hgs | simp) _) (fun hHeld => ?_)
          clear hK K; try simp only [Act.put, List.setIfInBounds_toArray]
          refine wpAnyH_done (by kernel_rfl) ?_ _
          go_wp2_with fail
          go_meet
          exact ⟨_, rfl, Lib.hid (HA.out.below hHeld), Lib.hid (setRow_heap _ _ _ _ _ _ hbx)⟩
        · go_simp
          refine hK.out _ _ (by (try dsimp only); exact below_alloc hHeld hHeld.size _) (fun hHeld => ?_)
          clear hK K; try simp only [Act.put, List.setIfInBounds_toArray, List.set]
          refine wpAnyH_ready (rs := [13]) (by kernel_rfl) (by simp) ?_
          refine AllReadyH.cons (o := _) rfl (fun K hK => ?_) AllReadyH.nil
          have hsz := hHeld.size
          have hbx := Blk.new wr.drew 23 #[.int .i64 0, .int .i64 0, .int .i64 0, .int .i64 0]
          (go_simp; go_at_call 79; (with_reducible refine (kr _).mono ?_); rintro e w1 ⟨rfl, hb1⟩; have hHeld := hHeld.trans (hb1.mono hHeld.size); have hbx := hbx.below hb1)
          refine hK.out _ _ (by (try dsimp only); exact hHeld) (fun hHeld => ?_)
          clear hK K; try simp only [Act.put, List.setIfInBounds_toArray, List.set]
          refine wpAnyH_ready (rs := [15]) (by kernel_rfl) (by simp) ?_
          refine AllReadyH.cons (o := _) rfl (fun K hK => ?_) AllReadyH.nil
          (refine wp_store_row 23 (.tmp 9) (.tmp 33) rfl wr.drew.heap.size #[.int .i64 Q.x0, .int .i64 Q.y0, .int .i64 Q.x1, .int .i64 Q.y1] rfl rfl 23 #[.int .i64 0, .int .i64 0, .int .i64 0, .int .i64 0] hbx inr4 rfl (onr4 _ _ _ _) ?_)
          refine hK.out _ _ (by (try dsimp only); exact below_setRow hHeld (by first | exact hgs | simp) _) (fun hHeld => ?_)
          clear hK K; try simp only [Act.put, List.setIfInBounds_toArray]
          refine wpAnyH_done (by kernel_rfl) ?_ _
          go_wp2_with fail
          go_meet
          exact ⟨_, rfl, Lib.hid (HA.out.below hHeld), Lib.hid (setRow_heap _ _ _ _ _ _ hbx)⟩

      case rest =>
        obtain ⟨gx, rfl, HA2, HX⟩ := hcut
        clear c0 c1 c2 c3 t0 t1 t2 t3 g6 kr HA
        obtain ⟨N, hN⟩ : ∃ x, x = bkN h p V k := ⟨_, rfl⟩
        rw [← hN] at HNX ⊢
        obtain ⟨L, hL⟩ : ∃ x, x = (3 * p.lev + 1).toNat := ⟨_, rfl⟩
        rw [← hL] at HNX
        have HL := Lib.hid (show (L : Int) = 3 * p.lev + 1 ∧ L ≤ 16 by have := HPO.out.lev; omega)
        clear hN hL
        go_upto_region 7 with fail
        go_loopw [7, 10] (fun v7 v10 wr => ∃ q : Nat, q ≤ L ∧ v10 = .int .i64 q ∧ v7 = .int .i64 (bkR p V C N q) ∧ Hid (PkS W h p V (some ⟨b, off, none⟩) s s2 mh m m2 wr) ∧ Hid (Blk wr gx 23 #[.int .i64 Q.x0, .int .i64 Q.y0, .int .i64 Q.x1, .int .i64 Q.y1])) (fun _ v _ => L - (intOf v).toNat)
        case atStart => exact ⟨0, Nat.zero_le _, rfl, rfl, HA2, HX⟩
        case round =>
          obtain ⟨q, hq, rfl, rfl, HB, HX1⟩ := hrel
          clear HA2 HX
          by_cases hql : q < L
          case pos =>
            have hqi : (q : Int) ≤ 3 * p.lev := by have := HL.out; omega
            have hl5 := HPO.out.lev
            have wl : IntKind.i64.wrap (3 * p.lev) = 3 * p.lev := IntWalk.i64_in _ (by omega)
            have wl' : wrap64 (3 * p.lev) = 3 * p.lev := IntWalk.wrap64_in _ (by omega)
            have w3' : IntKind.i64.wrap ((q : Int) + 1) = (q : Int) + 1 := IntWalk.i64_in _ (by have := HL.out; omega)
            have w2q : IntKind.i64.wrap ((q : Int) + 2) = (q : Int) + 2 := IntWalk.i64_in _ (by have := HL.out; omega)
            have hrs : 0 ≤ Hp.rsI q ∧ Hp.rsI q ≤ p.lev := by unfold Hp.rsI; omega
            have wq : IntKind.i64.wrap (((q : Int) + 2).tdiv 3) = Hp.rsI q := by
              rw [Int.tdiv_eq_ediv_of_nonneg (by omega)]
              exact IntWalk.i64_in _ (by unfold Hp.rsI at hrs; omega)
            have hpr := HPO.out.pre (Hp.rsI q) hrs.1 hrs.2
            have hbe := HPO.out.bex hrs.1 hrs.2
            have hbq := bex_eq p hrs.1
            have kp := rprec_c p s s2 m m2 (Hp.rsI q) wr HB.out.hP
            have kre := fun w : World => rband Q p.lev q w
            have hRR : Hp.fBan p q C V = Hp.banR Q p.lev q := by rw [HQ.out]; rfl
            have hvr := fban_v HCM.out HVV.out q (p := p)
            have hnx := bkR_next p V C N q
            have hgg : bkG p V C q = Hp.gridN (Hp.fBan p q C V) (Hp.bexM p (Hp.rsI q)) := rfl
            rw [hgg] at hnx
            rw [hRR] at hvr hnx
            obtain ⟨R, hR⟩ : ∃ x, x = Hp.banR Q p.lev q := ⟨_, rfl⟩
            rw [← hR] at kre hvr hnx
            obtain ⟨E, hE⟩ : ∃ x, x = Hp.precM p (Hp.rsI q) := ⟨_, rfl⟩
            rw [← hE] at kp hpr hbq
            obtain ⟨RS, hRS⟩ : ∃ x, x = Hp.rsI q := ⟨_, rfl⟩
            rw [← hRS] at kp hbe hbq hrs wq hnx hpr
            rw [hbq] at hbe hnx
            dsimp only at hbe
            have wm1 : IntKind.i64.wrap (E.x - min RS 1) = E.x - min RS 1 := IntWalk.i64_in _ (by omega)
            have wm2 : IntKind.i64.wrap (E.y - min RS 1) = E.y - min RS 1 := IntWalk.i64_in _ (by omega)
            have KG := Lib.hid (fun w : World => rgrid_c R (min p.bx (E.x - min RS 1)) (min p.yb (E.y - min RS 1)) w hvr hbe.1 hbe.2)
            obtain ⟨G, hG⟩ : ∃ x, x = Hp.gridN R ⟨min p.bx (E.x - min RS 1), min p.yb (E.y - min RS 1)⟩ := ⟨_, rfl⟩
            rw [← hG] at KG hnx
            have KRE := Lib.hid (show ∀ w : World, Calls Try.prog 87 #[.agg #[.int .i64 Q.x0, .int .i64 Q.y0, .int .i64 Q.x1, .int .i64 Q.y1], .int .i64 p.lev, .int .i64 q] w fun e w' => e = .returned (.agg #[.int .i64 R.x0, .int .i64 R.y0, .int .i64 R.x1, .int .i64 R.y1]) ∧ Below w.heap.size w w' from kre)
            have HWS := Lib.hid hnx
            clear hRR hvr hR hE hG hnx kre hpr hgg hbq hbe hRS hrs hl5
            generalize bkR p V C N q = M0 at *
            generalize hM1 : bkR p V C N (q + 1) = M1 at *
            have HM1 := Lib.hid hM1
            clear hM1
            have p1 := HB.out.bp.get 1 (v := .int .i64 p.lev) rfl
            go_upto_region 9 with fail
            clear p1
            go_upto_region 11 with (first | (refine wpList_load_mid rfl 35 (.tmp 4) rfl (W.heap.size + 1) 0 rfl (pvA p s m s2 m2).toList _ HB.out.bp.range Try.underlying35 rfl info19 ?_) | (go_at_call 14; (with_reducible refine kp.mono ?_); rintro e w3 ⟨rfl, hb⟩; have HB3 := Lib.hid (HB.out.below hb); have HX3 := Lib.hid (HX1.out.below hb); clear hb) | fail)
            obtain ⟨wd, hwd⟩ : ∃ x, x = w3.alloc (.cells #[.int .i64 E.x, .int .i64 E.y] 41) := ⟨_, rfl⟩
            obtain ⟨ge, hge⟩ : ∃ x, w3.heap.size = x := ⟨_, rfl⟩
            have hba : Below w3.heap.size w3 wd := by rw [hwd]; exact below_alloc (Below.refl _ _) (Nat.le_refl _) _
            have HBD1 := Lib.hid (HB3.out.below hba)
            have HXD := Lib.hid (HX3.out.below hba)
            have HE := Lib.hid (show Blk wd ge 41 #[.int .i64 E.x, .int .i64 E.y] by rw [hwd, ← hge]; exact Blk.new _ _ _)
            rw [hge, ← hwd]
            clear hge hwd hba HB HX1 HB3 HX3 kp
            obtain ⟨t0, t1, t2, t3⟩ := HXD.out.four
            obtain ⟨t4, t5⟩ := HE.out.two
            have t6 := HBD1.out.bp.get 1 (v := .int .i64 p.lev) rfl
            have t7 := HBD1.out.bp.get 3 (v := .int .i64 p.bx) rfl
            have t8 := HBD1.out.bp.get 4 (v := .int .i64 p.yb) rfl
            refine wp_region_held_drew (S := (fun w => Below wd.heap.size wd w)) (by kernel_rfl) (by (try dsimp only); exact (Below.refl _ _).drew) (fun hHeld => ?_)
            refine takeD (i := 0) (oi := _) (some 47) (v := ?_) rfl rfl (by kernel_rfl) (by kernel_rfl) (by kernel_rfl) (fun _ _ _ h => h) (Or.inl ⟨by rfl, ?_⟩) (by assumption) ?_
            rotate_left
            · (intro w hSw; (try dsimp only at hSw); have z0 := keepr t0 hSw; have z1 := keepr t1 hSw; have z2 := keepr t2 hSw; have z3 := keepr t3 hSw; have z4 := keepr t4 hSw; have z5 := keepr t5 hSw; have z6 := keepr t6 hSw; have z7 := keepr t7 hSw; have z8 := keepr t8 hSw; go_simp; try with_reducible rfl)
            simp only [Act.put, List.setIfInBounds_toArray, List.set]
            refine takeD (i := 1) (oi := _) (some 48) (v := ?_) rfl rfl (by kernel_rfl) (by kernel_rfl) (by kernel_rfl) (fun _ _ _ h => h) (Or.inl ⟨by rfl, ?_⟩) (by assumption) ?_
            rotate_left
            · (intro w hSw; (try dsimp only at hSw); have z0 := keepr t0 hSw; have z1 := keepr t1 hSw; have z2 := keepr t2 hSw; have z3 := keepr t3 hSw; have z4 := keepr t4 hSw; have z5 := keepr t5 hSw; have z6 := keepr t6 hSw; have z7 := keepr t7 hSw; have z8 := keepr t8 hSw; go_simp; try with_reducible rfl)
            simp only [Act.put, List.setIfInBounds_toArray, List.set]
            refine takeD (i := 2) (oi := _) (some 49) (v := ?_) rfl rfl (by kernel_rfl) (by kernel_rfl) (by kernel_rfl) (fun _ _ _ h => h) (Or.inl ⟨by rfl, ?_⟩) (by assumption) ?_
            rotate_left
            · (intro w hSw; (try dsimp only at hSw); have z0 := keepr t0 hSw; have z1 := keepr t1 hSw; have z2 := keepr t2 hSw; have z3 := keepr t3 hSw; have z4 := keepr t4 hSw; have z5 := keepr t5 hSw; have z6 := keepr t6 hSw; have z7 := keepr t7 hSw; have z8 := keepr t8 hSw; go_simp; try with_reducible rfl)
            simp only [Act.put, List.setIfInBounds_toArray, List.set]
            refine takeD (i := 3) (oi := _) (some 50) (v := ?_) rfl rfl (by kernel_rfl) (by kernel_rfl) (by kernel_rfl) (fun _ _ _ h => h) (Or.inl ⟨by rfl, ?_⟩) (by assumption) ?_
            rotate_left
            · (intro w hSw; (try dsimp only at hSw); have z0 := keepr t0 hSw; have z1 := keepr t1 hSw; have z2 := keepr t2 hSw; have z3 := keepr t3 hSw; have z4 := keepr t4 hSw; have z5 := keepr t5 hSw; have z6 := keepr t6 hSw; have z7 := keepr t7 hSw; have z8 := keepr t8 hSw; go_simp; try with_reducible rfl)
            simp only [Act.put, List.setIfInBounds_toArray, List.set]
            refine takeD (i := 4) (oi := _) (some 51) (v := ?_) rfl rfl (by kernel_rfl) (by kernel_rfl) (by kernel_rfl) (fun _ _ _ h => h) (Or.inl ⟨by rfl, ?_⟩) (by assumption) ?_
            rotate_left
            · (intro w hSw; (try dsimp only at hSw); have z0 := keepr t0 hSw; have z1 := keepr t1 hSw; have z2 := keepr t2 hSw; have z3 := keepr t3 hSw; have z4 := keepr t4 hSw; have z5 := keepr t5 hSw; have z6 := keepr t6 hSw; have z7 := keepr t7 hSw; have z8 := keepr t8 hSw; go_simp; try with_reducible rfl)
            simp only [Act.put, List.setIfInBounds_toArray, List.set]
            refine takeD (i := 6) (oi := _) (some 53) (v := ?_) rfl rfl (by kernel_rfl) (by kernel_rfl) (by kernel_rfl) (fun _ _ _ h => h) (Or.inl ⟨by rfl, ?_⟩) (by assumption) ?_
            rotate_left
            · (intro w hSw; (try dsimp only at hSw); have z0 := keepr t0 hSw; have z1 := keepr t1 hSw; have z2 := keepr t2 hSw; have z3 := keepr t3 hSw; have z4 := keepr t4 hSw; have z5 := keepr t5 hSw; have z6 := keepr t6 hSw; have z7 := keepr t7 hSw; have z8 := keepr t8 hSw; go_simp; try with_reducible rfl)
            simp only [Act.put, List.setIfInBounds_toArray, List.set]
            refine takeD (i := 7) (oi := _) (some 54) (v := ?_) rfl rfl (by kernel_rfl) (by kernel_rfl) (by kernel_rfl) (fun _ _ _ h => h) (Or.inl ⟨by rfl, ?_⟩) (by assumption) ?_
            rotate_left
            · (intro w hSw; (try dsimp only at hSw); have z0 := keepr t0 hSw; have z1 := keepr t1 hSw; have z2 := keepr t2 hSw; have z3 := keepr t3 hSw; have z4 := keepr t4 hSw; have z5 := keepr t5 hSw; have z6 := keepr t6 hSw; have z7 := keepr t7 hSw; have z8 := keepr t8 hSw; go_simp; try with_reducible rfl)
            simp only [Act.put, List.setIfInBounds_toArray, List.set]
            refine takeD (i := 8) (oi := _) (some 55) (v := ?_) rfl rfl (by kernel_rfl) (by kernel_rfl) (by kernel_rfl) (fun _ _ _ h => h) (Or.inl ⟨by rfl, ?_⟩) (by assumption) ?_
            rotate_left
            · (intro w hSw; (try dsimp only at hSw); have z0 := keepr t0 hSw; have z1 := keepr t1 hSw; have z2 := keepr t2 hSw; have z3 := keepr t3 hSw; have z4 := keepr t4 hSw; have z5 := keepr t5 hSw; have z6 := keepr t6 hSw; have z7 := keepr t7 hSw; have z8 := keepr t8 hSw; go_simp; try with_reducible rfl)
            simp only [Act.put, List.setIfInBounds_toArray, List.set]
            refine takeD (i := 9) (oi := _) (some 56) (v := ?_) rfl rfl (by kernel_rfl) (by kernel_rfl) (by kernel_rfl) (fun _ _ _ h => h) (Or.inl ⟨by rfl, ?_⟩) (by assumption) ?_
            rotate_left
            · (intro w hSw; (try dsimp only at hSw); have z0 := keepr t0 hSw; have z1 := keepr t1 hSw; have z2 := keepr t2 hSw; have z3 := keepr t3 hSw; have z4 := keepr t4 hSw; have z5 := keepr t5 hSw; have z6 := keepr t6 hSw; have z7 := keepr t7 hSw; have z8 := keepr t8 hSw; go_simp; try with_reducible rfl)
            simp only [Act.put, List.setIfInBounds_toArray, List.set]
            refine takeD (i := 10) (oi := _) (some 57) (v := ?_) rfl rfl (by kernel_rfl) (by kernel_rfl) (by kernel_rfl) (fun _ _ _ h => h) (Or.inl ⟨by rfl, ?_⟩) (by assumption) ?_
            rotate_left
            · (intro w hSw; (try dsimp only at hSw); have z0 := keepr t0 hSw; have z1 := keepr t1 hSw; have z2 := keepr t2 hSw; have z3 := keepr t3 hSw; have z4 := keepr t4 hSw; have z5 := keepr t5 hSw; have z6 := keepr t6 hSw; have z7 := keepr t7 hSw; have z8 := keepr t8 hSw; go_simp; try with_reducible rfl)
            simp only [Act.put, List.setIfInBounds_toArray, List.set]
            refine takeD (i := 11) (oi := _) (some 58) (v := ?_) rfl rfl (by kernel_rfl) (by kernel_rfl) (by kernel_rfl) (fun _ _ _ h => h) (Or.inl ⟨by rfl, ?_⟩) (by assumption) ?_
            rotate_left
            · (intro w hSw; (try dsimp only at hSw); have z0 := keepr t0 hSw; have z1 := keepr t1 hSw; have z2 := keepr t2 hSw; have z3 := keepr t3 hSw; have z4 := keepr t4 hSw; have z5 := keepr t5 hSw; have z6 := keepr t6 hSw; have z7 := keepr t7 hSw; have z8 := keepr t8 hSw; go_simp; try with_reducible rfl)
            simp only [Act.put, List.setIfInBounds_toArray, List.set]
            refine takeD (i := 12) (oi := _) (some 59) (v := ?_) rfl rfl (by kernel_rfl) (by kernel_rfl) (by kernel_rfl) (fun _ _ _ h => h) (Or.inl ⟨by rfl, ?_⟩) (by assumption) ?_
            rotate_left
            · (intro w hSw; (try dsimp only at hSw); have z0 := keepr t0 hSw; have z1 := keepr t1 hSw; have z2 := keepr t2 hSw; have z3 := keepr t3 hSw; have z4 := keepr t4 hSw; have z5 := keepr t5 hSw; have z6 := keepr t6 hSw; have z7 := keepr t7 hSw; have z8 := keepr t8 hSw; go_simp; try with_reducible rfl)
            simp only [Act.put, List.setIfInBounds_toArray, List.set]
            refine takeD (i := 13) (oi := _) (some 60) (v := ?_) rfl rfl (by kernel_rfl) (by kernel_rfl) (by kernel_rfl) (fun _ _ _ h => h) (Or.inl ⟨by rfl, ?_⟩) (by assumption) ?_
            rotate_left
            · (intro w hSw; (try dsimp only at hSw); have z0 := keepr t0 hSw; have z1 := keepr t1 hSw; have z2 := keepr t2 hSw; have z3 := keepr t3 hSw; have z4 := keepr t4 hSw; have z5 := keepr t5 hSw; have z6 := keepr t6 hSw; have z7 := keepr t7 hSw; have z8 := keepr t8 hSw; go_simp; try with_reducible rfl)
            simp only [Act.put, List.setIfInBounds_toArray, List.set]
            refine takeD (i := 14) (oi := _) (some 61) (v := ?_) rfl rfl (by kernel_rfl) (by kernel_rfl) (by kernel_rfl) (fun _ _ _ h => h) (Or.inl ⟨by rfl, ?_⟩) (by assumption) ?_
            rotate_left
            · (intro w hSw; (try dsimp only at hSw); have z0 := keepr t0 hSw; have z1 := keepr t1 hSw; have z2 := keepr t2 hSw; have z3 := keepr t3 hSw; have z4 := keepr t4 hSw; have z5 := keepr t5 hSw; have z6 := keepr t6 hSw; have z7 := keepr t7 hSw; have z8 := keepr t8 hSw; go_simp; try with_reducible rfl)
            simp only [Act.put, List.setIfInBounds_toArray, List.set]
            refine takeD (i := 15) (oi := _) (some 62) (v := ?_) rfl rfl (by kernel_rfl) (by kernel_rfl) (by kernel_rfl) (fun _ _ _ h => h) (Or.inl ⟨by rfl, ?_⟩) (by assumption) ?_
            rotate_left
            · (intro w hSw; (try dsimp only at hSw); have z0 := keepr t0 hSw; have z1 := keepr t1 hSw; have z2 := keepr t2 hSw; have z3 := keepr t3 hSw; have z4 := keepr t4 hSw; have z5 := keepr t5 hSw; have z6 := keepr t6 hSw; have z7 := keepr t7 hSw; have z8 := keepr t8 hSw; go_simp; try with_reducible rfl)
            simp only [Act.put, List.setIfInBounds_toArray, List.set]
            refine takeD (i := 16) (oi := _) (some 63) (v := ?_) rfl rfl (by kernel_rfl) (by kernel_rfl) (by kernel_rfl) (fun _ _ _ h => h) (Or.inl ⟨by rfl, ?_⟩) (by assumption) ?_
            rotate_left
            · (intro w hSw; (try dsimp only at hSw); have z0 := keepr t0 hSw; have z1 := keepr t1 hSw; have z2 := keepr t2 hSw; have z3 := keepr t3 hSw; have z4 := keepr t4 hSw; have z5 := keepr t5 hSw; have z6 := keepr t6 hSw; have z7 := keepr t7 hSw; have z8 := keepr t8 hSw; go_simp; try with_reducible rfl)
            simp only [Act.put, List.setIfInBounds_toArray, List.set]
            refine takeD (i := 17) (oi := _) (some 64) (v := ?_) rfl rfl (by kernel_rfl) (by kernel_rfl) (by kernel_rfl) (fun _ _ _ h => h) (Or.inl ⟨by rfl, ?_⟩) (by assumption) ?_
            rotate_left
            · (intro w hSw; (try dsimp only at hSw); have z0 := keepr t0 hSw; have z1 := keepr t1 hSw; have z2 := keepr t2 hSw; have z3 := keepr t3 hSw; have z4 := keepr t4 hSw; have z5 := keepr t5 hSw; have z6 := keepr t6 hSw; have z7 := keepr t7 hSw; have z8 := keepr t8 hSw; go_simp; try with_reducible rfl)
            simp only [Act.put, List.setIfInBounds_toArray, List.set]
            refine takeD (i := 18) (oi := _) (some 65) (v := ?_) rfl rfl (by kernel_rfl) (by kernel_rfl) (by kernel_rfl) (fun _ _ _ h => h) (Or.inl ⟨by rfl, ?_⟩) (by assumption) ?_
            rotate_left
            · (intro w hSw; (try dsimp only at hSw); have z0 := keepr t0 hSw; have z1 := keepr t1 hSw; have z2 := keepr t2 hSw; have z3 := keepr t3 hSw; have z4 := keepr t4 hSw; have z5 := keepr t5 hSw; have z6 := keepr t6 hSw; have z7 := keepr t7 hSw; have z8 := keepr t8 hSw; go_simp; try with_reducible rfl)
            simp only [Act.put, List.setIfInBounds_toArray, List.set]
            refine takeD (i := 19) (oi := _) (some 66) (v := ?_) rfl rfl (by kernel_rfl) (by kernel_rfl) (by kernel_rfl) (fun _ _ _ h => h) (Or.inl ⟨by rfl, ?_⟩) (by assumption) ?_
            rotate_left
            · (intro w hSw; (try dsimp only at hSw); have z0 := keepr t0 hSw; have z1 := keepr t1 hSw; have z2 := keepr t2 hSw; have z3 := keepr t3 hSw; have z4 := keepr t4 hSw; have z5 := keepr t5 hSw; have z6 := keepr t6 hSw; have z7 := keepr t7 hSw; have z8 := keepr t8 hSw; go_simp; try with_reducible rfl)
            simp only [Act.put, List.setIfInBounds_toArray, List.set]
            refine takeD (i := 20) (oi := _) (some 67) (v := ?_) rfl rfl (by kernel_rfl) (by kernel_rfl) (by kernel_rfl) (fun _ _ _ h => h) (Or.inl ⟨by rfl, ?_⟩) (by assumption) ?_
            rotate_left
            · (intro w hSw; (try dsimp only at hSw); have z0 := keepr t0 hSw; have z1 := keepr t1 hSw; have z2 := keepr t2 hSw; have z3 := keepr t3 hSw; have z4 := keepr t4 hSw; have z5 := keepr t5 hSw; have z6 := keepr t6 hSw; have z7 := keepr t7 hSw; have z8 := keepr t8 hSw; go_simp; try with_reducible rfl)
            simp only [Act.put, List.setIfInBounds_toArray, List.set]
            refine takeD (i := 21) (oi := _) (some 68) (v := ?_) rfl rfl (by kernel_rfl) (by kernel_rfl) (by kernel_rfl) (fun _ _ _ h => h) (Or.inl ⟨by rfl, ?_⟩) (by assumption) ?_
            rotate_left
            · (intro w hSw; (try dsimp only at hSw); have z0 := keepr t0 hSw; have z1 := keepr t1 hSw; have z2 := keepr t2 hSw; have z3 := keepr t3 hSw; have z4 := keepr t4 hSw; have z5 := keepr t5 hSw; have z6 := keepr t6 hSw; have z7 := keepr t7 hSw; have z8 := keepr t8 hSw; go_simp; try with_reducible rfl)
            simp only [Act.put, List.setIfInBounds_toArray, List.set]
            refine wpAnyH_ready (rs := [5]) (by kernel_rfl) (by simp) ?_
            refine AllReadyH.cons (o := _) rfl (fun K hK => ?_) AllReadyH.nil
            (go_simp; go_at_call 87; (with_reducible refine (KRE.out _).mono ?_); rintro e wn ⟨rfl, hbn⟩)
            refine hK.out _ _ (by (try dsimp only); first | exact hHeld | exact hHeld.trans (hbn.mono hHeld.size)) (fun hHeld => ?_)
            clear hK K
            try simp only [Act.put, List.setIfInBounds_toArray, List.set]
            refine wpAnyH_ready (rs := [22]) (by kernel_rfl) (by simp) ?_
            refine AllReadyH.cons (o := _) rfl (fun K hK => ?_) AllReadyH.nil
            (go_simp; go_at_call 85; (with_reducible refine (KG.out _).mono ?_); rintro e wn ⟨rfl, hbn⟩)
            refine hK.out _ _ (by (try dsimp only); first | exact hHeld | exact hHeld.trans (hbn.mono hHeld.size)) (fun hHeld => ?_)
            clear hK K
            try simp only [Act.put, List.setIfInBounds_toArray, List.set]
            refine takeD (i := 23) (oi := _) (some 70) (v := ?_) rfl rfl (by kernel_rfl) (by kernel_rfl) (by kernel_rfl) (fun _ _ _ h => h) (Or.inl ⟨by rfl, ?_⟩) (by assumption) ?_
            rotate_left
            · (intro w hSw; (try dsimp only at hSw); have z0 := keepr t0 hSw; have z1 := keepr t1 hSw; have z2 := keepr t2 hSw; have z3 := keepr t3 hSw; have z4 := keepr t4 hSw; have z5 := keepr t5 hSw; have z6 := keepr t6 hSw; have z7 := keepr t7 hSw; have z8 := keepr t8 hSw; go_simp; try with_reducible rfl)
            simp only [Act.put, List.setIfInBounds_toArray, List.set]
            refine takeD (i := 24) (oi := _) (some 7) (v := ?_) rfl rfl (by kernel_rfl) (by kernel_rfl) (by kernel_rfl) (fun _ _ _ h => h) (Or.inl ⟨by rfl, ?_⟩) (by assumption) ?_
            rotate_left
            · (intro w hSw; (try dsimp only at hSw); have z0 := keepr t0 hSw; have z1 := keepr t1 hSw; have z2 := keepr t2 hSw; have z3 := keepr t3 hSw; have z4 := keepr t4 hSw; have z5 := keepr t5 hSw; have z6 := keepr t6 hSw; have z7 := keepr t7 hSw; have z8 := keepr t8 hSw; go_simp; try with_reducible rfl)
            simp only [Act.put, List.setIfInBounds_toArray, List.set]
            refine wpAnyH_done (by kernel_rfl) ?_ _

            have HB4 := Lib.hid (HBD1.out.below hHeld)
            have HX4 := Lib.hid (HXD.out.below hHeld)
            go_wp2_with fail
            go_roundw
            case rel => exact ⟨q + 1, by omega, by go_num, by rw [HM1.out, HWS.out], HB4, HX4⟩
            case measure => simp [intOf]; omega
          case neg =>
            obtain rfl : q = L := by omega
            have hqi : ¬ (q : Int) ≤ 3 * p.lev := by have := HL.out; omega
            have wl : IntKind.i64.wrap (3 * p.lev) = 3 * p.lev := IntWalk.i64_in _ (by have := HPO.out.lev; omega)
            have wl' : wrap64 (3 * p.lev) = 3 * p.lev := IntWalk.wrap64_in _ (by have := HPO.out.lev; omega)
            have p1 := HB.out.bp.get 1 (v := .int .i64 p.lev) rfl
            go_wp2_with fail
            go_roundw
            case rel => exact ⟨k + 1, by omega, by go_num, by rw [HNX.out], HB⟩
            case measure => simp [intOf]; omega
    case neg =>
      obtain rfl : k = h.cs.length := by omega
      obtain ⟨-, -, -, -, -, -, g6⟩ := HA.out.bh.hd
      go_wp2_with fail
      go_ret
      exact ⟨rfl, HA.out.bl⟩
end Go.Proofs.Ytkcjbehfhcmiaaa
