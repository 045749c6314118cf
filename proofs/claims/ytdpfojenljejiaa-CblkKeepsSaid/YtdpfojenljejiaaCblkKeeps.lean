/-
  For all sizes and lists of calls the statement CblkKeeps returns true; they read afterwards as before.
  Conditions: none beyond those of the given statement.
-/
import Derived.Test.YtdpfojenljejiaaKa
import Derived.Test.YtdpfojenljejiaaPn
set_option maxRecDepth 100000
namespace Go.Proofs.Ytdpfojenljejiaa.cblkKeeps
open Go.ChangeShapes Go.WideShapes Go.ChangeAt Go.RowKit Go.Joins Go.Deep

theorem doE_o {w h : Nat} {o : OpV} (hin : ¬ inB w h o.x o.y) : doE w h o = 2 := by
  have a : setE w h o.x o.y o.v = 2 := by unfold setE; rw [if_neg (fun c => hin c.1)]
  have b : atE w h o.x o.y = 2 := by unfold atE; rw [if_neg hin]
  unfold doE
  rw [a, b]
  simp
theorem doQ_o {w h : Nat} {q : St} {o : OpV} (hin : ¬ inB w h o.x o.y) : doQ w h q o = q := by
  have a : setQ w h q o.x o.y o.v = q := by unfold setQ; rw [if_neg (fun c => hin c.1)]
  have b : markQ w h q o.x o.y = q := by unfold markQ; rw [if_neg hin]
  have c : ∀ z, touchQ w h q o.x o.y z = q := fun z => by unfold touchQ; rw [if_neg hin]
  have d : refineQ w h q o.x o.y = q := by unfold refineQ; rw [if_neg hin]
  unfold doQ
  rw [a, b, c, c, d]
  simp
theorem b8n (s : Bool) : (b8 s != 0) = s := by cases s <;> decide
theorem b8n2 (s : Bool) : (2 * b8 s != 0) = s := by cases s <;> decide
theorem b8n4 (s : Bool) : (4 * b8 s != 0) = s := by cases s <;> decide
theorem bne1 (s : Bool) : (s != s) = false := by cases s <;> rfl
theorem bne2 (s : Bool) : (!s == s) = false := by cases s <;> rfl
theorem ke_zero {w1 : World} {B A V S T R w h : Nat} (C1 : Cb w1 B A V S T R w h St.zero) (hB : B ≤ w1.heap.size) : Ke ((w1.alloc (zI (w * h))).alloc (zI (w * h))) B A V S T R w1.heap.size (w1.heap.size + 1) w h St.zero := by
  have hb := below_alloc (below_alloc (Below.refl _ w1) (zI (w * h))) (zI (w * h))
  have b1 : Blk (w1.alloc (zI (w * h))) w1.heap.size 3 (madeCells #[.int .i64 0] (w * h)) := Blk.new w1 _ _
  have b2 : Blk ((w1.alloc (zI (w * h))).alloc (zI (w * h))) (w1.alloc (zI (w * h))).heap.size 3 (madeCells #[.int .i64 0] (w * h)) := Blk.new _ _ _
  rw [show (w1.alloc (zI (w * h))).heap.size = w1.heap.size + 1 by simp] at b2
  have hV := C1.gv.lt
  exact ⟨C1.below hb, gs_made rfl (b1.alloc _), gs_made rfl b2, by omega, by omega, by omega, by omega, by omega⟩
theorem op4 {w : World} {g : Nat} {a b c d : Int} (h : Blk w g 35 #[.int .i64 a, .int .i64 b, .int .i64 c, .int .i64 d]) : w.cell? ⟨g, 0, none⟩ = some (.int .i64 a) ∧ w.cell? ⟨g, 1, none⟩ = some (.int .i64 b) ∧ w.cell? ⟨g, 2, none⟩ = some (.int .i64 c) ∧ w.cell? ⟨g, 3, none⟩ = some (.int .i64 d) := ⟨h.cell 0, h.cell 1, h.cell 2, h.cell 3⟩
theorem op_free {w : World} {g : Nat} {cs : Array Value} (h : Blk w g 35 cs) : w.frozen? ⟨g, 0, none⟩ = false := h.free 0
theorem opfar {W : World} {B A V S T R w h g : Nat} {q : St} {cs : Array Value} (H : Cb W B A V S T R w h q) (ho : Blk W g 35 cs) : g ∉ [V, S, T, R] := by
  have a1 := H.gv.neb ho (by decide)
  have a2 := H.gs.neb ho (by decide)
  have a3 := H.gt.neb ho (by decide)
  have a4 := H.gr.neb ho (by decide)
  simp; exact ⟨a1.symm, a2.symm, a3.symm, a4.symm⟩
theorem fpB {W : World} {B A V S T R w h : Nat} {q : St} (H : Cb W B A V S T R w h q) : ∀ k ∈ [V, S, T, R], B ≤ k := by
  intro k hk
  simp at hk
  rcases hk with rfl | rfl | rfl | rfl
  · exact H.geV
  · exact H.geS
  · exact H.geT
  · exact H.geR
set_option maxHeartbeats 40000000 in
theorem yes (w h : Nat) (hw : 1 ≤ w ∧ w ≤ 12) (hh : 1 ≤ h ∧ h ≤ 12) (l : List OpV) (hl : l.length ≤ 100) (s : Option Addr) (m : Nat) (W : World) (HO : HoldsO W s l) (sm : Calls Try.prog 18 #[.int .i64 (w : Int), .int .i64 (h : Int), .slice s l.length m] W fun e w' => e = .returned (.bool true) ∧ W = w') :
    Calls Try.prog 7 #[.int .i64 (w : Int), .int .i64 (h : Int), .slice s l.length m] W fun e w' => e = .returned (.bool true) ∧ Below W.heap.size W w' := by
  have n1 := new_yes w h (by unfold fits; omega) W
  have hN : w * h ≤ 144 := Nat.mul_le_mul hw.2 hh.2
  have wm := wrap_mul w h (by omega)
  have mk := mkI (w * h) (by omega)
  have HOO := Lib.hid HO
  have HN := Lib.hid hN
  have HWH := Lib.hid (And.intro hw hh)
  obtain ⟨N0, hN0⟩ : ∃ N0, N0 = w * h := ⟨_, rfl⟩
  rw [← hN0] at wm mk
  have HN0 := Lib.hid hN0
  clear HO hN hw hh hN0
  go_enter Try.func7, Try.ntmps7
  go_wp2_with (first | (go_at_call 18; (with_reducible refine sm.mono ?_); rintro e wn ⟨rfl, rfl⟩))
  refine n1.mono ?_
  rintro e w1 ⟨A, V, S, T, R, rfl, hC, hB⟩
  have K0 : Hid (Ke ((w1.alloc (zI N0)).alloc (zI N0)) W.heap.size A V S T R w1.heap.size (w1.heap.size + 1) w h St.zero) := by rw [HN0.out]; exact ke_zero hC hB.size
  have B0 := Lib.hid (below_alloc (below_alloc hB (zI N0)) (zI N0))
  clear hC hB n1
  go_wp2_with fail
  generalize hGV : w1.heap.size = GV at *
  generalize hGF : GV + 1 = GF at *
  clear hGV hGF
  generalize (w1.alloc (zI N0)).alloc (zI N0) = w2 at *
  clear mk sm
  go_loopw [11] (fun i wr => ∃ k : Nat, k ≤ l.length ∧ i = .int .i64 (k : Int) ∧ Hid (Ke wr W.heap.size A V S T R GV GF w h (playQ w h l k) ∧ Below W.heap.size W wr)) (fun i _ => l.length - (intOf i).toNat)
  case atStart => exact ⟨0, Nat.zero_le _, rfl, K0.out, B0.out⟩
  case round =>
    obtain ⟨k, hk, rfl, hT⟩ := hrel
    by_cases hlt : k < l.length
    · obtain ⟨g, off, rfl, oo⟩ := HOO.out.at hlt
      have hq := playQ_succ w h l k hlt
      generalize l[k] = o at *
      obtain ⟨kk, x, y, v⟩ := o
      have HQ := Lib.hid hq
      have q0 := oo.below hT.out.2
      unfold OpAt at q0
      obtain ⟨o0, o1, o2, o3⟩ := q0
      dsimp only at o0 o1 o2 o3
      have hA := below_alloc (Below.refl _ wr) (.cells #[.int .i64 kk, .int .i64 x, .int .i64 y, .int .i64 v] 35)
      have H2 := Lib.hid (hT.out.1.below hA)
      have H1 := Lib.hid H2.out.cb
      have B1 := Lib.hid (below_call hT.out.2 hA)
      have OB := Lib.hid (Blk.new wr 35 #[.int .i64 kk, .int .i64 x, .int .i64 y, .int .i64 v])
      clear hq oo hA
      by_cases hin : inB w h x y
      · obtain ⟨i1, i2, i3, i4⟩ := id hin
        by_cases h0 : kk = 0
        · subst h0
          by_cases hv : okV v
          · obtain ⟨v1, v2⟩ := id hv
            have HE : doE w h ⟨0, x, y, v⟩ = 0 := by unfold doE setE; rw [if_pos rfl, if_pos ⟨hin, hv⟩]
            have D := do_c H1.out ⟨0, x, y, v⟩
            rw [show doE w h ⟨0, x, y, v⟩ = 0 from HE] at D
            unfold OpV.val at D
            go_wp2_with fail
            refine D.mono ?_
            rintro e w5 hg
            obtain ⟨rfl, hC, hK⟩ := hg
            have hX : ∀ k, k < (wr.alloc (.cells #[.int .i64 0, .int .i64 x, .int .i64 y, .int .i64 v] 35)).heap.size → k ∉ [V, S, T, R] → w5.heap[k]? = (wr.alloc (.cells #[.int .i64 0, .int .i64 x, .int .i64 y, .int .i64 v] 35)).heap[k]? := hK.block
            have OB5 : Blk w5 wr.heap.size 35 #[.int .i64 0, .int .i64 x, .int .i64 y, .int .i64 v] := (hX _ OB.out.lt (opfar H1.out OB.out)).trans OB.out
            have C5 := Lib.hid hC
            have K5 := Lib.hid hK
            have B5 := Lib.hid (hK.below (fun k hk => fpB C5.out k hk) B1.out.size)
            have B6 := Lib.hid (B1.out.trans B5.out)
            clear hC hK hX D o0 o1 o2 o3
            obtain ⟨c0, c1, c2, c3⟩ := op4 OB5
            have hq2 : doQ w h (playQ w h l k) ⟨0, x, y, v⟩ = { playQ w h l k with v := upd (playQ w h l k).v x y v } := by unfold doQ setQ; rw [if_pos rfl, if_pos ⟨hin, hv⟩]
            have C6 := C5.out
            rw [hq2] at C6
            have N6 := Lib.hid (H2.out.setv hin C6 K5.out)
            obtain ⟨w1', w2'⟩ := ixR_w H2.out.cb.fit hin
            have lt : ixR w x y < N0 := by rw [HN0.out]; exact ixR_lt hin
            have ltI : ((ixR w x y : Nat) : Int) < (N0 : Int) := by omega
            have fv := ((H2.out.gv.keep (K5.out.block _ H2.out.gv.lt H2.out.far.1)).free)
            have ff := ((H2.out.gf.keep (K5.out.block _ H2.out.gf.lt H2.out.far.2)).free)
            have dv := ((H2.out.gv.keep (K5.out.block _ H2.out.gv.lt H2.out.far.1)).at hin)
            have df := ((H2.out.gf.keep (K5.out.block _ H2.out.gf.lt H2.out.far.2)).at hin)
            have u1 := fl_or1 ((playQ w h l k).s x y) ((playQ w h l k).t x y) ((playQ w h l k).r x y)
            have u2 := fl_or2 ((playQ w h l k).s x y) ((playQ w h l k).t x y) ((playQ w h l k).r x y)
            have u3 := fl_not2 ((playQ w h l k).s x y) ((playQ w h l k).t x y) ((playQ w h l k).r x y)
            have u4 := fl_or4 ((playQ w h l k).s x y) ((playQ w h l k).t x y) ((playQ w h l k).r x y)
            have F7 : ∀ X, Ke X W.heap.size A V S T R GV GF w h (doQ w h (playQ w h l k) ⟨0, x, y, v⟩) ∧ Kb [GV, GF] w5 X → Hid (Ke X W.heap.size A V S T R GV GF w h (playQ w h l (k + 1)) ∧ Below W.heap.size W X) := fun X hX => by
              rw [HQ.out]
              refine ⟨hX.1, B6.out.trans (hX.2.below (fun j hj => ?_) B6.out.size)⟩
              simp at hj
              rcases hj with rfl | rfl
              · exact hX.1.e1
              · exact hX.1.e2
            rw [hq2] at F7
            have N7 := Lib.hid (F7 _ N6.out)
            generalize fl true ((playQ w h l k).t x y) ((playQ w h l k).r x y) = f1 at *
            generalize fl ((playQ w h l k).s x y) true ((playQ w h l k).r x y) = f2 at *
            generalize fl ((playQ w h l k).s x y) false ((playQ w h l k).r x y) = f3 at *
            generalize fl ((playQ w h l k).s x y) ((playQ w h l k).t x y) true = f4 at *
            generalize fl ((playQ w h l k).s x y) ((playQ w h l k).t x y) ((playQ w h l k).r x y) = f0 at *
            generalize (playQ w h l k).v x y = v0 at *
            generalize ixR w x y = ii at *
            generalize y.toNat * w = PP at *
            clear OB5 hq2 C6 N6 F7 hin
            go_wp2_with fail
            go_roundw
            case rel => exact ⟨k + 1, by omega, by go_num, N7⟩
            case measure => simp [intOf]; omega
          · have HE : doE w h ⟨0, x, y, v⟩ = 2 := by unfold doE setE; rw [if_pos rfl, if_neg (fun q => hv q.2)]
            have hvc : v ≤ -1152921504606846976 ∨ (-1152921504606846976 < v ∧ 1152921504606846976 ≤ v) := by unfold okV at hv; omega
            have HQ2 : doQ w h (playQ w h l k) ⟨0, x, y, v⟩ = playQ w h l k := by unfold doQ setQ; rw [if_pos rfl, if_neg (fun q => hv q.2)]
            clear hv
            rcases hvc with v1 | ⟨v1, v2⟩
            · skip
              have D := do_c H1.out ⟨0, x, y, v⟩
              rw [show doE w h ⟨0, x, y, v⟩ = 2 from HE] at D
              unfold OpV.val at D
              go_wp2_with fail
              refine D.mono ?_
              rintro e w5 hg
              obtain ⟨rfl, hC, hK⟩ := hg
              have hX : ∀ k, k < (wr.alloc (.cells #[.int .i64 0, .int .i64 x, .int .i64 y, .int .i64 v] 35)).heap.size → k ∉ [V, S, T, R] → w5.heap[k]? = (wr.alloc (.cells #[.int .i64 0, .int .i64 x, .int .i64 y, .int .i64 v] 35)).heap[k]? := hK.block
              have OB5 : Blk w5 wr.heap.size 35 #[.int .i64 0, .int .i64 x, .int .i64 y, .int .i64 v] := (hX _ OB.out.lt (opfar H1.out OB.out)).trans OB.out
              have C5 := Lib.hid hC
              have K5 := Lib.hid hK
              have B5 := Lib.hid (hK.below (fun k hk => fpB C5.out k hk) B1.out.size)
              have B6 := Lib.hid (B1.out.trans B5.out)
              clear hC hK hX D o0 o1 o2 o3
              have hq2 : doQ w h (playQ w h l k) ⟨0, x, y, v⟩ = playQ w h l k := HQ2
              have F6 : Hid (Ke w5 W.heap.size A V S T R GV GF w h (playQ w h l (k + 1)) ∧ Below W.heap.size W w5) := by
                rw [HQ.out, hq2]
                refine ⟨H2.out.same ?_ K5.out, B6.out⟩
                have := C5.out
                rw [hq2] at this
                exact this
              clear OB5 hq2
              go_wp2_with fail
              go_roundw
              case rel => exact ⟨k + 1, by omega, by go_num, F6⟩
              case measure => simp [intOf]; omega
            · have vd : decide (v < 1152921504606846976) = false := by simpa using v2
              have D := do_c H1.out ⟨0, x, y, v⟩
              rw [show doE w h ⟨0, x, y, v⟩ = 2 from HE] at D
              unfold OpV.val at D
              go_wp2_with fail
              refine D.mono ?_
              rintro e w5 hg
              obtain ⟨rfl, hC, hK⟩ := hg
              have hX : ∀ k, k < (wr.alloc (.cells #[.int .i64 0, .int .i64 x, .int .i64 y, .int .i64 v] 35)).heap.size → k ∉ [V, S, T, R] → w5.heap[k]? = (wr.alloc (.cells #[.int .i64 0, .int .i64 x, .int .i64 y, .int .i64 v] 35)).heap[k]? := hK.block
              have OB5 : Blk w5 wr.heap.size 35 #[.int .i64 0, .int .i64 x, .int .i64 y, .int .i64 v] := (hX _ OB.out.lt (opfar H1.out OB.out)).trans OB.out
              have C5 := Lib.hid hC
              have K5 := Lib.hid hK
              have B5 := Lib.hid (hK.below (fun k hk => fpB C5.out k hk) B1.out.size)
              have B6 := Lib.hid (B1.out.trans B5.out)
              clear hC hK hX D o0 o1 o2 o3
              have hq2 : doQ w h (playQ w h l k) ⟨0, x, y, v⟩ = playQ w h l k := HQ2
              have F6 : Hid (Ke w5 W.heap.size A V S T R GV GF w h (playQ w h l (k + 1)) ∧ Below W.heap.size W w5) := by
                rw [HQ.out, hq2]
                refine ⟨H2.out.same ?_ K5.out, B6.out⟩
                have := C5.out
                rw [hq2] at this
                exact this
              clear OB5 hq2
              go_wp2_with fail
              go_roundw
              case rel => exact ⟨k + 1, by omega, by go_num, F6⟩
              case measure => simp [intOf]; omega
        · have k0 : (kk == 0) = false := by simpa using h0
          have k0' : (kk != 0) = true := by simpa using h0
          have HE : doE w h ⟨kk, x, y, v⟩ = 0 := by unfold doE atE; rw [if_neg h0, if_pos hin]
          by_cases h1 : kk = 1
          · subst h1
            have D := do_c H1.out ⟨1, x, y, v⟩
            rw [show doE w h ⟨1, x, y, v⟩ = 0 from HE] at D
            unfold OpV.val at D
            go_wp2_with fail
            refine D.mono ?_
            rintro e w5 hg
            obtain ⟨rfl, hC, hK⟩ := hg
            have hX : ∀ k, k < (wr.alloc (.cells #[.int .i64 1, .int .i64 x, .int .i64 y, .int .i64 v] 35)).heap.size → k ∉ [V, S, T, R] → w5.heap[k]? = (wr.alloc (.cells #[.int .i64 1, .int .i64 x, .int .i64 y, .int .i64 v] 35)).heap[k]? := hK.block
            have OB5 : Blk w5 wr.heap.size 35 #[.int .i64 1, .int .i64 x, .int .i64 y, .int .i64 v] := (hX _ OB.out.lt (opfar H1.out OB.out)).trans OB.out
            have C5 := Lib.hid hC
            have K5 := Lib.hid hK
            have B5 := Lib.hid (hK.below (fun k hk => fpB C5.out k hk) B1.out.size)
            have B6 := Lib.hid (B1.out.trans B5.out)
            clear hC hK hX D o0 o1 o2 o3
            obtain ⟨c0, c1, c2, c3⟩ := op4 OB5
            have hq2 : doQ w h (playQ w h l k) ⟨1, x, y, v⟩ = { playQ w h l k with s := upd (playQ w h l k).s x y true } := by unfold doQ markQ; rw [if_neg (by dsimp only; decide), if_pos rfl, if_pos hin]
            have C6 := C5.out
            rw [hq2] at C6
            have N6 := Lib.hid (H2.out.setf hin C6 K5.out rfl (fun X Y _ => fl_mark (playQ w h l k) x y X Y))
            obtain ⟨w1', w2'⟩ := ixR_w H2.out.cb.fit hin
            have lt : ixR w x y < N0 := by rw [HN0.out]; exact ixR_lt hin
            have ltI : ((ixR w x y : Nat) : Int) < (N0 : Int) := by omega
            have fv := ((H2.out.gv.keep (K5.out.block _ H2.out.gv.lt H2.out.far.1)).free)
            have ff := ((H2.out.gf.keep (K5.out.block _ H2.out.gf.lt H2.out.far.2)).free)
            have dv := ((H2.out.gv.keep (K5.out.block _ H2.out.gv.lt H2.out.far.1)).at hin)
            have df := ((H2.out.gf.keep (K5.out.block _ H2.out.gf.lt H2.out.far.2)).at hin)
            have u1 := fl_or1 ((playQ w h l k).s x y) ((playQ w h l k).t x y) ((playQ w h l k).r x y)
            have u2 := fl_or2 ((playQ w h l k).s x y) ((playQ w h l k).t x y) ((playQ w h l k).r x y)
            have u3 := fl_not2 ((playQ w h l k).s x y) ((playQ w h l k).t x y) ((playQ w h l k).r x y)
            have u4 := fl_or4 ((playQ w h l k).s x y) ((playQ w h l k).t x y) ((playQ w h l k).r x y)
            have F7 : ∀ X, Ke X W.heap.size A V S T R GV GF w h (doQ w h (playQ w h l k) ⟨1, x, y, v⟩) ∧ Kb [GV, GF] w5 X → Hid (Ke X W.heap.size A V S T R GV GF w h (playQ w h l (k + 1)) ∧ Below W.heap.size W X) := fun X hX => by
              rw [HQ.out]
              refine ⟨hX.1, B6.out.trans (hX.2.below (fun j hj => ?_) B6.out.size)⟩
              simp at hj
              rcases hj with rfl | rfl
              · exact hX.1.e1
              · exact hX.1.e2
            rw [hq2] at F7
            have N7 := Lib.hid (F7 _ N6.out)
            generalize fl true ((playQ w h l k).t x y) ((playQ w h l k).r x y) = f1 at *
            generalize fl ((playQ w h l k).s x y) true ((playQ w h l k).r x y) = f2 at *
            generalize fl ((playQ w h l k).s x y) false ((playQ w h l k).r x y) = f3 at *
            generalize fl ((playQ w h l k).s x y) ((playQ w h l k).t x y) true = f4 at *
            generalize fl ((playQ w h l k).s x y) ((playQ w h l k).t x y) ((playQ w h l k).r x y) = f0 at *
            generalize (playQ w h l k).v x y = v0 at *
            generalize ixR w x y = ii at *
            generalize y.toNat * w = PP at *
            clear OB5 hq2 C6 N6 F7 hin
            go_wp2_with fail
            go_roundw
            case rel => exact ⟨k + 1, by omega, by go_num, N7⟩
            case measure => simp [intOf]; omega
          have k1 : (kk == 1) = false := by simpa using h1
          by_cases h2 : kk = 2
          · subst h2
            have D := do_c H1.out ⟨2, x, y, v⟩
            rw [show doE w h ⟨2, x, y, v⟩ = 0 from HE] at D
            unfold OpV.val at D
            go_wp2_with fail
            refine D.mono ?_
            rintro e w5 hg
            obtain ⟨rfl, hC, hK⟩ := hg
            have hX : ∀ k, k < (wr.alloc (.cells #[.int .i64 2, .int .i64 x, .int .i64 y, .int .i64 v] 35)).heap.size → k ∉ [V, S, T, R] → w5.heap[k]? = (wr.alloc (.cells #[.int .i64 2, .int .i64 x, .int .i64 y, .int .i64 v] 35)).heap[k]? := hK.block
            have OB5 : Blk w5 wr.heap.size 35 #[.int .i64 2, .int .i64 x, .int .i64 y, .int .i64 v] := (hX _ OB.out.lt (opfar H1.out OB.out)).trans OB.out
            have C5 := Lib.hid hC
            have K5 := Lib.hid hK
            have B5 := Lib.hid (hK.below (fun k hk => fpB C5.out k hk) B1.out.size)
            have B6 := Lib.hid (B1.out.trans B5.out)
            clear hC hK hX D o0 o1 o2 o3
            obtain ⟨c0, c1, c2, c3⟩ := op4 OB5
            have hq2 : doQ w h (playQ w h l k) ⟨2, x, y, v⟩ = { playQ w h l k with t := upd (playQ w h l k).t x y true } := by unfold doQ touchQ; rw [if_neg (by dsimp only; decide), if_neg (by dsimp only; decide), if_pos rfl, if_pos hin]
            have C6 := C5.out
            rw [hq2] at C6
            have N6 := Lib.hid (H2.out.setf hin C6 K5.out rfl (fun X Y _ => fl_touch (playQ w h l k) x y X Y true))
            obtain ⟨w1', w2'⟩ := ixR_w H2.out.cb.fit hin
            have lt : ixR w x y < N0 := by rw [HN0.out]; exact ixR_lt hin
            have ltI : ((ixR w x y : Nat) : Int) < (N0 : Int) := by omega
            have fv := ((H2.out.gv.keep (K5.out.block _ H2.out.gv.lt H2.out.far.1)).free)
            have ff := ((H2.out.gf.keep (K5.out.block _ H2.out.gf.lt H2.out.far.2)).free)
            have dv := ((H2.out.gv.keep (K5.out.block _ H2.out.gv.lt H2.out.far.1)).at hin)
            have df := ((H2.out.gf.keep (K5.out.block _ H2.out.gf.lt H2.out.far.2)).at hin)
            have u1 := fl_or1 ((playQ w h l k).s x y) ((playQ w h l k).t x y) ((playQ w h l k).r x y)
            have u2 := fl_or2 ((playQ w h l k).s x y) ((playQ w h l k).t x y) ((playQ w h l k).r x y)
            have u3 := fl_not2 ((playQ w h l k).s x y) ((playQ w h l k).t x y) ((playQ w h l k).r x y)
            have u4 := fl_or4 ((playQ w h l k).s x y) ((playQ w h l k).t x y) ((playQ w h l k).r x y)
            have F7 : ∀ X, Ke X W.heap.size A V S T R GV GF w h (doQ w h (playQ w h l k) ⟨2, x, y, v⟩) ∧ Kb [GV, GF] w5 X → Hid (Ke X W.heap.size A V S T R GV GF w h (playQ w h l (k + 1)) ∧ Below W.heap.size W X) := fun X hX => by
              rw [HQ.out]
              refine ⟨hX.1, B6.out.trans (hX.2.below (fun j hj => ?_) B6.out.size)⟩
              simp at hj
              rcases hj with rfl | rfl
              · exact hX.1.e1
              · exact hX.1.e2
            rw [hq2] at F7
            have N7 := Lib.hid (F7 _ N6.out)
            generalize fl true ((playQ w h l k).t x y) ((playQ w h l k).r x y) = f1 at *
            generalize fl ((playQ w h l k).s x y) true ((playQ w h l k).r x y) = f2 at *
            generalize fl ((playQ w h l k).s x y) false ((playQ w h l k).r x y) = f3 at *
            generalize fl ((playQ w h l k).s x y) ((playQ w h l k).t x y) true = f4 at *
            generalize fl ((playQ w h l k).s x y) ((playQ w h l k).t x y) ((playQ w h l k).r x y) = f0 at *
            generalize (playQ w h l k).v x y = v0 at *
            generalize ixR w x y = ii at *
            generalize y.toNat * w = PP at *
            clear OB5 hq2 C6 N6 F7 hin
            go_wp2_with fail
            go_roundw
            case rel => exact ⟨k + 1, by omega, by go_num, N7⟩
            case measure => simp [intOf]; omega
          have k2 : (kk == 2) = false := by simpa using h2
          by_cases h3 : kk = 3
          · subst h3
            have D := do_c H1.out ⟨3, x, y, v⟩
            rw [show doE w h ⟨3, x, y, v⟩ = 0 from HE] at D
            unfold OpV.val at D
            go_wp2_with fail
            refine D.mono ?_
            rintro e w5 hg
            obtain ⟨rfl, hC, hK⟩ := hg
            have hX : ∀ k, k < (wr.alloc (.cells #[.int .i64 3, .int .i64 x, .int .i64 y, .int .i64 v] 35)).heap.size → k ∉ [V, S, T, R] → w5.heap[k]? = (wr.alloc (.cells #[.int .i64 3, .int .i64 x, .int .i64 y, .int .i64 v] 35)).heap[k]? := hK.block
            have OB5 : Blk w5 wr.heap.size 35 #[.int .i64 3, .int .i64 x, .int .i64 y, .int .i64 v] := (hX _ OB.out.lt (opfar H1.out OB.out)).trans OB.out
            have C5 := Lib.hid hC
            have K5 := Lib.hid hK
            have B5 := Lib.hid (hK.below (fun k hk => fpB C5.out k hk) B1.out.size)
            have B6 := Lib.hid (B1.out.trans B5.out)
            clear hC hK hX D o0 o1 o2 o3
            obtain ⟨c0, c1, c2, c3⟩ := op4 OB5
            have hq2 : doQ w h (playQ w h l k) ⟨3, x, y, v⟩ = { playQ w h l k with t := upd (playQ w h l k).t x y false } := by unfold doQ touchQ; rw [if_neg (by dsimp only; decide), if_neg (by dsimp only; decide), if_neg (by dsimp only; decide), if_pos rfl, if_pos hin]
            have C6 := C5.out
            rw [hq2] at C6
            have N6 := Lib.hid (H2.out.setf hin C6 K5.out rfl (fun X Y _ => fl_touch (playQ w h l k) x y X Y false))
            obtain ⟨w1', w2'⟩ := ixR_w H2.out.cb.fit hin
            have lt : ixR w x y < N0 := by rw [HN0.out]; exact ixR_lt hin
            have ltI : ((ixR w x y : Nat) : Int) < (N0 : Int) := by omega
            have fv := ((H2.out.gv.keep (K5.out.block _ H2.out.gv.lt H2.out.far.1)).free)
            have ff := ((H2.out.gf.keep (K5.out.block _ H2.out.gf.lt H2.out.far.2)).free)
            have dv := ((H2.out.gv.keep (K5.out.block _ H2.out.gv.lt H2.out.far.1)).at hin)
            have df := ((H2.out.gf.keep (K5.out.block _ H2.out.gf.lt H2.out.far.2)).at hin)
            have u1 := fl_or1 ((playQ w h l k).s x y) ((playQ w h l k).t x y) ((playQ w h l k).r x y)
            have u2 := fl_or2 ((playQ w h l k).s x y) ((playQ w h l k).t x y) ((playQ w h l k).r x y)
            have u3 := fl_not2 ((playQ w h l k).s x y) ((playQ w h l k).t x y) ((playQ w h l k).r x y)
            have u4 := fl_or4 ((playQ w h l k).s x y) ((playQ w h l k).t x y) ((playQ w h l k).r x y)
            have F7 : ∀ X, Ke X W.heap.size A V S T R GV GF w h (doQ w h (playQ w h l k) ⟨3, x, y, v⟩) ∧ Kb [GV, GF] w5 X → Hid (Ke X W.heap.size A V S T R GV GF w h (playQ w h l (k + 1)) ∧ Below W.heap.size W X) := fun X hX => by
              rw [HQ.out]
              refine ⟨hX.1, B6.out.trans (hX.2.below (fun j hj => ?_) B6.out.size)⟩
              simp at hj
              rcases hj with rfl | rfl
              · exact hX.1.e1
              · exact hX.1.e2
            rw [hq2] at F7
            have N7 := Lib.hid (F7 _ N6.out)
            generalize fl true ((playQ w h l k).t x y) ((playQ w h l k).r x y) = f1 at *
            generalize fl ((playQ w h l k).s x y) true ((playQ w h l k).r x y) = f2 at *
            generalize fl ((playQ w h l k).s x y) false ((playQ w h l k).r x y) = f3 at *
            generalize fl ((playQ w h l k).s x y) ((playQ w h l k).t x y) true = f4 at *
            generalize fl ((playQ w h l k).s x y) ((playQ w h l k).t x y) ((playQ w h l k).r x y) = f0 at *
            generalize (playQ w h l k).v x y = v0 at *
            generalize ixR w x y = ii at *
            generalize y.toNat * w = PP at *
            clear OB5 hq2 C6 N6 F7 hin
            go_wp2_with fail
            go_roundw
            case rel => exact ⟨k + 1, by omega, by go_num, N7⟩
            case measure => simp [intOf]; omega
          have k3 : (kk == 3) = false := by simpa using h3
          have D := do_c H1.out ⟨kk, x, y, v⟩
          rw [show doE w h ⟨kk, x, y, v⟩ = 0 from HE] at D
          unfold OpV.val at D
          go_wp2_with fail
          refine D.mono ?_
          rintro e w5 hg
          obtain ⟨rfl, hC, hK⟩ := hg
          have hX : ∀ k, k < (wr.alloc (.cells #[.int .i64 kk, .int .i64 x, .int .i64 y, .int .i64 v] 35)).heap.size → k ∉ [V, S, T, R] → w5.heap[k]? = (wr.alloc (.cells #[.int .i64 kk, .int .i64 x, .int .i64 y, .int .i64 v] 35)).heap[k]? := hK.block
          have OB5 : Blk w5 wr.heap.size 35 #[.int .i64 kk, .int .i64 x, .int .i64 y, .int .i64 v] := (hX _ OB.out.lt (opfar H1.out OB.out)).trans OB.out
          have C5 := Lib.hid hC
          have K5 := Lib.hid hK
          have B5 := Lib.hid (hK.below (fun k hk => fpB C5.out k hk) B1.out.size)
          have B6 := Lib.hid (B1.out.trans B5.out)
          clear hC hK hX D o0 o1 o2 o3
          obtain ⟨c0, c1, c2, c3⟩ := op4 OB5
          have hq2 : doQ w h (playQ w h l k) ⟨kk, x, y, v⟩ = { playQ w h l k with r := upd (playQ w h l k).r x y true } := by unfold doQ refineQ; rw [if_neg h0, if_neg h1, if_neg h2, if_neg h3, if_pos hin]
          have C6 := C5.out
          rw [hq2] at C6
          have N6 := Lib.hid (H2.out.setf hin C6 K5.out rfl (fun X Y _ => fl_refine (playQ w h l k) x y X Y))
          obtain ⟨w1', w2'⟩ := ixR_w H2.out.cb.fit hin
          have lt : ixR w x y < N0 := by rw [HN0.out]; exact ixR_lt hin
          have ltI : ((ixR w x y : Nat) : Int) < (N0 : Int) := by omega
          have fv := ((H2.out.gv.keep (K5.out.block _ H2.out.gv.lt H2.out.far.1)).free)
          have ff := ((H2.out.gf.keep (K5.out.block _ H2.out.gf.lt H2.out.far.2)).free)
          have dv := ((H2.out.gv.keep (K5.out.block _ H2.out.gv.lt H2.out.far.1)).at hin)
          have df := ((H2.out.gf.keep (K5.out.block _ H2.out.gf.lt H2.out.far.2)).at hin)
          have u1 := fl_or1 ((playQ w h l k).s x y) ((playQ w h l k).t x y) ((playQ w h l k).r x y)
          have u2 := fl_or2 ((playQ w h l k).s x y) ((playQ w h l k).t x y) ((playQ w h l k).r x y)
          have u3 := fl_not2 ((playQ w h l k).s x y) ((playQ w h l k).t x y) ((playQ w h l k).r x y)
          have u4 := fl_or4 ((playQ w h l k).s x y) ((playQ w h l k).t x y) ((playQ w h l k).r x y)
          have F7 : ∀ X, Ke X W.heap.size A V S T R GV GF w h (doQ w h (playQ w h l k) ⟨kk, x, y, v⟩) ∧ Kb [GV, GF] w5 X → Hid (Ke X W.heap.size A V S T R GV GF w h (playQ w h l (k + 1)) ∧ Below W.heap.size W X) := fun X hX => by
            rw [HQ.out]
            refine ⟨hX.1, B6.out.trans (hX.2.below (fun j hj => ?_) B6.out.size)⟩
            simp at hj
            rcases hj with rfl | rfl
            · exact hX.1.e1
            · exact hX.1.e2
          rw [hq2] at F7
          have N7 := Lib.hid (F7 _ N6.out)
          generalize fl true ((playQ w h l k).t x y) ((playQ w h l k).r x y) = f1 at *
          generalize fl ((playQ w h l k).s x y) true ((playQ w h l k).r x y) = f2 at *
          generalize fl ((playQ w h l k).s x y) false ((playQ w h l k).r x y) = f3 at *
          generalize fl ((playQ w h l k).s x y) ((playQ w h l k).t x y) true = f4 at *
          generalize fl ((playQ w h l k).s x y) ((playQ w h l k).t x y) ((playQ w h l k).r x y) = f0 at *
          generalize (playQ w h l k).v x y = v0 at *
          generalize ixR w x y = ii at *
          generalize y.toNat * w = PP at *
          clear OB5 hq2 C6 N6 F7 hin
          go_wp2_with fail
          go_roundw
          case rel => exact ⟨k + 1, by omega, by go_num, N7⟩
          case measure => simp [intOf]; omega
      · have HE : doE w h ⟨kk, x, y, v⟩ = 2 := doE_o hin
        have HQ2 : doQ w h (playQ w h l k) ⟨kk, x, y, v⟩ = playQ w h l k := doQ_o hin
        have hc : x < 0 ∨ (0 ≤ x ∧ (w : Int) ≤ x) ∨ (0 ≤ x ∧ x < w ∧ y < 0) ∨ (0 ≤ x ∧ x < w ∧ 0 ≤ y ∧ (h : Int) ≤ y) := by unfold inB at hin; omega
        clear hin
        rcases hc with i1 | ⟨i1, i2⟩ | ⟨i1, i2, i3⟩ | ⟨i1, i2, i3, i4⟩
        · skip
          have D := do_c H1.out ⟨kk, x, y, v⟩
          rw [show doE w h ⟨kk, x, y, v⟩ = 2 from HE] at D
          unfold OpV.val at D
          go_wp2_with fail
          refine D.mono ?_
          rintro e w5 hg
          obtain ⟨rfl, hC, hK⟩ := hg
          have hX : ∀ k, k < (wr.alloc (.cells #[.int .i64 kk, .int .i64 x, .int .i64 y, .int .i64 v] 35)).heap.size → k ∉ [V, S, T, R] → w5.heap[k]? = (wr.alloc (.cells #[.int .i64 kk, .int .i64 x, .int .i64 y, .int .i64 v] 35)).heap[k]? := hK.block
          have OB5 : Blk w5 wr.heap.size 35 #[.int .i64 kk, .int .i64 x, .int .i64 y, .int .i64 v] := (hX _ OB.out.lt (opfar H1.out OB.out)).trans OB.out
          have C5 := Lib.hid hC
          have K5 := Lib.hid hK
          have B5 := Lib.hid (hK.below (fun k hk => fpB C5.out k hk) B1.out.size)
          have B6 := Lib.hid (B1.out.trans B5.out)
          clear hC hK hX D o0 o1 o2 o3
          have hq2 : doQ w h (playQ w h l k) ⟨kk, x, y, v⟩ = playQ w h l k := HQ2
          have F6 : Hid (Ke w5 W.heap.size A V S T R GV GF w h (playQ w h l (k + 1)) ∧ Below W.heap.size W w5) := by
            rw [HQ.out, hq2]
            refine ⟨H2.out.same ?_ K5.out, B6.out⟩
            have := C5.out
            rw [hq2] at this
            exact this
          clear OB5 hq2
          go_wp2_with fail
          go_roundw
          case rel => exact ⟨k + 1, by omega, by go_num, F6⟩
          case measure => simp [intOf]; omega
        · skip
          have D := do_c H1.out ⟨kk, x, y, v⟩
          rw [show doE w h ⟨kk, x, y, v⟩ = 2 from HE] at D
          unfold OpV.val at D
          go_wp2_with fail
          refine D.mono ?_
          rintro e w5 hg
          obtain ⟨rfl, hC, hK⟩ := hg
          have hX : ∀ k, k < (wr.alloc (.cells #[.int .i64 kk, .int .i64 x, .int .i64 y, .int .i64 v] 35)).heap.size → k ∉ [V, S, T, R] → w5.heap[k]? = (wr.alloc (.cells #[.int .i64 kk, .int .i64 x, .int .i64 y, .int .i64 v] 35)).heap[k]? := hK.block
          have OB5 : Blk w5 wr.heap.size 35 #[.int .i64 kk, .int .i64 x, .int .i64 y, .int .i64 v] := (hX _ OB.out.lt (opfar H1.out OB.out)).trans OB.out
          have C5 := Lib.hid hC
          have K5 := Lib.hid hK
          have B5 := Lib.hid (hK.below (fun k hk => fpB C5.out k hk) B1.out.size)
          have B6 := Lib.hid (B1.out.trans B5.out)
          clear hC hK hX D o0 o1 o2 o3
          have hq2 : doQ w h (playQ w h l k) ⟨kk, x, y, v⟩ = playQ w h l k := HQ2
          have F6 : Hid (Ke w5 W.heap.size A V S T R GV GF w h (playQ w h l (k + 1)) ∧ Below W.heap.size W w5) := by
            rw [HQ.out, hq2]
            refine ⟨H2.out.same ?_ K5.out, B6.out⟩
            have := C5.out
            rw [hq2] at this
            exact this
          clear OB5 hq2
          go_wp2_with fail
          go_roundw
          case rel => exact ⟨k + 1, by omega, by go_num, F6⟩
          case measure => simp [intOf]; omega
        · skip
          have D := do_c H1.out ⟨kk, x, y, v⟩
          rw [show doE w h ⟨kk, x, y, v⟩ = 2 from HE] at D
          unfold OpV.val at D
          go_wp2_with fail
          refine D.mono ?_
          rintro e w5 hg
          obtain ⟨rfl, hC, hK⟩ := hg
          have hX : ∀ k, k < (wr.alloc (.cells #[.int .i64 kk, .int .i64 x, .int .i64 y, .int .i64 v] 35)).heap.size → k ∉ [V, S, T, R] → w5.heap[k]? = (wr.alloc (.cells #[.int .i64 kk, .int .i64 x, .int .i64 y, .int .i64 v] 35)).heap[k]? := hK.block
          have OB5 : Blk w5 wr.heap.size 35 #[.int .i64 kk, .int .i64 x, .int .i64 y, .int .i64 v] := (hX _ OB.out.lt (opfar H1.out OB.out)).trans OB.out
          have C5 := Lib.hid hC
          have K5 := Lib.hid hK
          have B5 := Lib.hid (hK.below (fun k hk => fpB C5.out k hk) B1.out.size)
          have B6 := Lib.hid (B1.out.trans B5.out)
          clear hC hK hX D o0 o1 o2 o3
          have hq2 : doQ w h (playQ w h l k) ⟨kk, x, y, v⟩ = playQ w h l k := HQ2
          have F6 : Hid (Ke w5 W.heap.size A V S T R GV GF w h (playQ w h l (k + 1)) ∧ Below W.heap.size W w5) := by
            rw [HQ.out, hq2]
            refine ⟨H2.out.same ?_ K5.out, B6.out⟩
            have := C5.out
            rw [hq2] at this
            exact this
          clear OB5 hq2
          go_wp2_with fail
          go_roundw
          case rel => exact ⟨k + 1, by omega, by go_num, F6⟩
          case measure => simp [intOf]; omega
        · have yd : decide (y < (h : Int)) = false := by simpa using i4
          have D := do_c H1.out ⟨kk, x, y, v⟩
          rw [show doE w h ⟨kk, x, y, v⟩ = 2 from HE] at D
          unfold OpV.val at D
          go_wp2_with fail
          refine D.mono ?_
          rintro e w5 hg
          obtain ⟨rfl, hC, hK⟩ := hg
          have hX : ∀ k, k < (wr.alloc (.cells #[.int .i64 kk, .int .i64 x, .int .i64 y, .int .i64 v] 35)).heap.size → k ∉ [V, S, T, R] → w5.heap[k]? = (wr.alloc (.cells #[.int .i64 kk, .int .i64 x, .int .i64 y, .int .i64 v] 35)).heap[k]? := hK.block
          have OB5 : Blk w5 wr.heap.size 35 #[.int .i64 kk, .int .i64 x, .int .i64 y, .int .i64 v] := (hX _ OB.out.lt (opfar H1.out OB.out)).trans OB.out
          have C5 := Lib.hid hC
          have K5 := Lib.hid hK
          have B5 := Lib.hid (hK.below (fun k hk => fpB C5.out k hk) B1.out.size)
          have B6 := Lib.hid (B1.out.trans B5.out)
          clear hC hK hX D o0 o1 o2 o3
          have hq2 : doQ w h (playQ w h l k) ⟨kk, x, y, v⟩ = playQ w h l k := HQ2
          have F6 : Hid (Ke w5 W.heap.size A V S T R GV GF w h (playQ w h l (k + 1)) ∧ Below W.heap.size W w5) := by
            rw [HQ.out, hq2]
            refine ⟨H2.out.same ?_ K5.out, B6.out⟩
            have := C5.out
            rw [hq2] at this
            exact this
          clear OB5 hq2
          go_wp2_with fail
          go_roundw
          case rel => exact ⟨k + 1, by omega, by go_num, F6⟩
          case measure => simp [intOf]; omega
    · obtain rfl : k = l.length := by omega
      have hT1 := Lib.hid hT.out.1
      have B1 := Lib.hid hT.out.2
      clear hT
      generalize playQ w h l l.length = q at *
      go_wp2_with fail
      obtain ⟨W0, rfl⟩ : ∃ W0, W0 = wr := ⟨_, rfl⟩
      go_loopw [15, 16] (fun i x wr => ∃ Y : Nat, Y ≤ h ∧ i = .int .i64 (Y : Int) ∧ Hid (Below W0.heap.size W0 wr)) (fun i _ _ => h - (intOf i).toNat)
      case atStart => exact ⟨0, by omega, rfl, Below.refl _ _⟩
      case round =>
        obtain ⟨Y, hY, rfl, hb⟩ := hrel
        have hh12 := HWH.out.2.2
        by_cases hlY : Y < h
        · have hb0 := Lib.hid hb.out
          clear hb
          go_wp2_with fail
          go_loopw [16] (fun i wr => ∃ X : Nat, X ≤ w ∧ i = .int .i64 (X : Int) ∧ Hid (Below W0.heap.size W0 wr)) (fun i _ => w - (intOf i).toNat)
          case atStart => exact ⟨0, by omega, rfl, hb0.out⟩
          case round =>
            obtain ⟨X, hX, rfl, hb⟩ := hrel
            have hw12 := HWH.out.1.2
            by_cases hlX : X < w
            · have hin : inB w h (X : Int) (Y : Int) := by unfold inB; omega
              have H0 := Lib.hid (hT1.out.below hb.out)
              have HD := Lib.hid (H0.out.below (Below.refl _ _).drew)
              have d1 := value_c HD.out.cb (X : Int) (Y : Int)
              have d2 := significant_c HD.out.cb (X : Int) (Y : Int)
              have d3 := touched_c HD.out.cb (X : Int) (Y : Int)
              have d4 := refined_c HD.out.cb (X : Int) (Y : Int)
              have cv := H0.out.gv.at hin
              have cf := H0.out.gf.at hin
              have cvD := HD.out.gv.at hin
              obtain ⟨x1, x2⟩ := ixR_w H0.out.cb.fit hin
              rw [show ((Y : Int)).toNat = Y by omega] at x1 x2
              have lt : ixR w (X : Int) (Y : Int) < N0 := by rw [HN0.out]; exact ixR_lt hin
              have ltI : ((ixR w (X : Int) (Y : Int) : Nat) : Int) < (N0 : Int) := by omega
              have a1 := fl_and1 (q.s X Y) (q.t X Y) (q.r X Y)
              have a2 := fl_and2 (q.s X Y) (q.t X Y) (q.r X Y)
              have a4 := fl_and4 (q.s X Y) (q.t X Y) (q.r X Y)
              have m1 := b8n (q.s X Y)
              have m2 := b8n2 (q.t X Y)
              have m4 := b8n4 (q.r X Y)
              have e1 := bne1 (q.s X Y)
              have e2 := bne1 (q.t X Y)
              have e3 := bne1 (q.r X Y)
              have f1 := bne2 (q.s X Y)
              have f2 := bne2 (q.t X Y)
              have f3 := bne2 (q.r X Y)
              have vv : (q.v X Y != q.v X Y) = false := by simp
              generalize fl (q.s X Y) (q.t X Y) (q.r X Y) = fz at *
              generalize 2 * b8 (q.t X Y) = g2 at *
              generalize 4 * b8 (q.r X Y) = g4 at *
              generalize b8 (q.s X Y) = g1 at *
              generalize q.v X Y = zv at *
              generalize q.s X Y = zs at *
              generalize q.t X Y = zt at *
              generalize q.r X Y = zr at *
              generalize ixR w (X : Int) (Y : Int) = ii at *
              generalize Y * w = PP at *
              clear hin
              go_wp2_with fail
              clear cf
              go_region_held3 (fun w' => w'.cell? ⟨GV, ii, none⟩ = some (.int .i64 zv))
                (first | (with_reducible exact cv) | (with_reducible exact cvD) | fail)
                (first | (go_simp; go_at_call 31; (with_reducible refine d1.mono ?_); rintro e wn ⟨rfl, rfl⟩) | (go_simp; go_at_call 32; (with_reducible refine d2.mono ?_); rintro e wn ⟨rfl, rfl⟩) | (go_simp; go_at_call 33; (with_reducible refine d3.mono ?_); rintro e wn ⟨rfl, rfl⟩) | (go_simp; go_at_call 34; (with_reducible refine d4.mono ?_); rintro e wn ⟨rfl, rfl⟩) | fail)
              all_goals
                clear d1 d2 d3 d4 cv cvD
                go_wp2_with fail
                go_roundw
                case rel => exact ⟨X + 1, by omega, by go_num, hb.out.drew⟩
                case measure => simp [intOf]; omega
            · obtain rfl : X = w := by omega
              go_wp2_with fail
              go_roundw
              case rel => exact ⟨Y + 1, by omega, by go_num, hb⟩
              case measure => simp [intOf]; omega
        · obtain rfl : Y = h := by omega
          go_wp2_with fail
          refine (ex14_c _).mono ?_
          rintro e w4 ⟨rfl, hb4⟩
          have B4 := Lib.hid (below_call (below_call B1.out hb.out) hb4)
          clear hb4
          go_wp2_with fail
          go_ret
          exact ⟨rfl, B4.out⟩
theorem walk (w h : Int) (l : List OpV) (s : Option Addr) (m : Nat) (W : World) (HO : HoldsO W s l) : Calls Try.prog 7 #[.int .i64 w, .int .i64 h, .slice s l.length m] W fun e w' => e = .returned (.bool true) ∧ Below W.heap.size W w' := by
  have sm := small_c w h s l.length m W
  by_cases hs : 1 ≤ w ∧ w ≤ 12 ∧ 1 ≤ h ∧ h ≤ 12 ∧ l.length ≤ 100
  · rw [decide_eq_true hs] at sm
    obtain ⟨w0, rfl⟩ : ∃ n : Nat, w = n := ⟨w.toNat, by omega⟩
    obtain ⟨h0, rfl⟩ : ∃ n : Nat, h = n := ⟨h.toNat, by omega⟩
    exact yes w0 h0 (by omega) (by omega) l (by omega) s m W HO sm
  · rw [decide_eq_false hs] at sm
    clear hs HO
    go_enter Try.func7, Try.ntmps7
    go_wp2_with (first | (go_at_call 18; (with_reducible refine sm.mono ?_); rintro e wn ⟨rfl, rfl⟩))
    refine (ex14_c _).mono ?_
    rintro e w4 ⟨rfl, hb⟩
    have B4 := Lib.hid hb
    clear hb
    go_wp2_with fail
    go_ret
    exact ⟨rfl, B4.out⟩

set_option maxRecDepth 100000 in
theorem lifted (os : Os) (started : os.Started) (H : Type) (enc : TypeId × Value → H) :
    ReturnsInHanded {} Try.checked os 7 .any (Rows.cblkKeepsSpec.pre6 enc Try.prog Try.f7 Rows.cblkKeepsRow.domain false) (Rows.cblkKeepsSpec.post enc Try.prog Try.f7 false true false false) := by
  refine returnsInHanded_of_change (C := Try.checked) own started (by kernel_rfl) Try.func7
    (ChangeSpec.witness6 (enc := enc) (C := Try.checked) false ⟨#[], #[.int .i64 0, .int .i64 0, .slice none 0 0], []⟩ 8 (by kernel_rfl) (by kernel_rfl) (by kernel_rfl) (by kernel_rfl)) ?_
  intro W base args ds gs before hval0 hW _ _
  have hval : ∀ (j : Nat) t v, Try.f7.params[j]? = some t → args[j]? = some v → Value.okWide Try.prog W .any base t v := hval0
  have hW' := hW
  obtain ⟨p, q, hA0, hV, rfl, _, _⟩ := hW
  have hA : DataW.TrodAll enc Try.prog W 0 (fun _ => true) true Try.f7.params.toList args.toList ds p := hA0
  rw [Try.params7] at hA hval
  obtain ⟨v0, vs0, d0, ds0, p0, q0, hargs, rfl, rfl, h0, r0⟩ := trodAll_cons hA
  obtain ⟨v1, vs1, d1, ds1, p1, q1, rfl, rfl, rfl, h1, r1⟩ := trodAll_cons r0
  obtain ⟨v2, vs2, d2, ds2, p2, q2, rfl, rfl, rfl, h2, r2⟩ := trodAll_cons r1
  obtain ⟨rfl, rfl, rfl⟩ := trodAll_nil r2
  obtain rfl : args = #[v0, v1, v2] := by cases args; simp_all
  obtain ⟨rfl, rfl⟩ := trodVars_none hV
  clear hA0 hval0
  simp only [List.append_nil] at hW'
  have l0 : ∀ x ∈ p0, x.block < W.heap.size := fun x hx => hW'.lt x (by simp [hx])
  have l1 : ∀ x ∈ p1, x.block < W.heap.size := fun x hx => hW'.lt x (by simp [hx])
  have l2 : ∀ x ∈ p2, x.block < W.heap.size := fun x hx => hW'.lt x (by simp [hx])
  obtain ⟨i0, rfl, _, _, wi0⟩ := open_int Try.underlying3 (hval 0 3 v0 rfl rfl) h0
  obtain ⟨i1, rfl, _, _, wi1⟩ := open_int Try.underlying3 (hval 1 3 v1 rfl rfl) h1
  obtain ⟨s2, o2, m2, rfl, hO2⟩ := open_ops (hval 2 22 v2 rfl rfl) h2
  refine (walk i0 i1 o2 s2 m2 W hO2).mono fun e W' ⟨he, hb⟩ => ?_
  subst he
  exact ⟨_, rfl, post_low (pa := p0 ++ (p1 ++ (p2 ++ ([])))) (pv := []) hW' (fun _ _ _ => (trodAll_cons_mk (shut_bool Try.underlying4 _) trodAll_mk0)) (fun sp hsp => (trodAll_cons_mk (trod_low laidOut (by kernel_rfl) (of_decide_eq_true (by kernel_rfl)) h0 hb l0 (fun x hx => hsp x (by simp [hx]))) (trodAll_cons_mk (trod_low laidOut (by kernel_rfl) (of_decide_eq_true (by kernel_rfl)) h1 hb l1 (fun x hx => hsp x (by simp [hx]))) (trodAll_cons_mk (trod_low laidOut (by kernel_rfl) (of_decide_eq_true (by kernel_rfl)) h2 hb l2 (fun x hx => hsp x (by simp [hx]))) trodAll_mk0)))) (fun _ _ => rfl) (by simp) hb (ok_one (by kernel_rfl) rfl (okWide_bool_mk Try.underlying4 _))⟩

theorem over : Rows.cblkKeepsRow.holds Try.pinned (OpenSpec.ofChange Rows.cblkKeepsSpec) :=
  OpenClaim.holds_of_wide 7 Try.f7 rfl rfl rfl rfl rfl rfl rfl ⟨rfl, rfl, rfl, rfl, rfl⟩ rfl rfl rfl rfl rfl (by kernel_rfl) Try.func7 (by kernel_rfl)
    (of_decide_eq_true (by kernel_rfl)) (by unfold Func.isWrapper; first | (rw [if_pos (by decide +kernel)]; kernel_rfl) | (rw [if_neg (by decide +kernel)]; exact ⟨rfl, rfl⟩))
    (fun os started H enc _ => lifted os started H enc)

theorem proved : Rows.CblkKeepsSaid :=
  over
#print axioms proved
end Go.Proofs.Ytdpfojenljejiaa.cblkKeeps
