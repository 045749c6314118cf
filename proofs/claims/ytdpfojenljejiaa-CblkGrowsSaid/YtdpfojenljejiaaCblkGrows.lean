/-
  For all sizes and lists of calls the statement CblkGrows returns true; they read afterwards as before.
  Conditions: none beyond those of the given statement.
-/
import Derived.Test.YtdpfojenljejiaaHb
set_option maxRecDepth 100000
namespace Go.Proofs.Ytdpfojenljejiaa.cblkGrows
open Go.ChangeShapes Go.WideShapes Go.ChangeAt Go.RowKit Go.Joins Go.Deep

set_option maxHeartbeats 8000000 in
theorem yes (w h : Nat) (hw1 : 1 ≤ w) (hw : w ≤ 12) (hh1 : 1 ≤ h) (hh : h ≤ 12) (l : List OpV) (s : Option Addr) (m : Nat) (W : World) (HO : HoldsO W s l) (hl : l.length ≤ 100) : Calls Try.prog 8 #[.int .i64 (w : Int), .int .i64 (h : Int), .slice s l.length m] W fun e w' => e = .returned (.bool true) ∧ Below W.heap.size W w' := by
  have sm := small_c (w : Int) (h : Int) s l.length m W
  rw [decide_eq_true (by omega)] at sm
  have pl := played_c w h (by unfold fits; omega) l s m W HO (by omega)
  have xm : (l.length : Int) % (w : Int) = ((l.length % w : Nat) : Int) := by simp
  have ym : ((l.length : Int) + (w : Int)) % (h : Int) = (((l.length + w) % h : Nat) : Int) := by simp
  have hx : l.length % w < w := Nat.mod_lt _ (by omega)
  have hy : (l.length + w) % h < h := Nat.mod_lt _ (by omega)
  have g1 : 1 ≤ (w : Int) := by omega
  have g2 : 1 ≤ (h : Int) := by omega
  have g3 : (w : Int) ≤ 12 := by omega
  have g4 : (h : Int) ≤ 12 := by omega
  have g5 : (l.length : Int) ≤ 100 := by omega
  have HW := Lib.hid (And.intro hw1 (And.intro hw (And.intro hh1 hh)))
  generalize playQ w h l l.length = q at pl
  generalize l.length % w = x at *
  generalize (l.length + w) % h = y at *
  have HX := Lib.hid (And.intro hx hy)
  clear HO hl hw1 hw hh1 hh hx hy
  go_enter Try.func8, Try.ntmps8
  go_wp2_with (first | (go_at_call 18; (with_reducible refine sm.mono ?_); rintro e wn ⟨rfl, rfl⟩))
  refine pl.mono ?_
  rintro e w1 ⟨A, V, S, T, R, A2, C, rfl, hH, hb⟩
  have C1 := Lib.hid hH.cb
  have B1 := Lib.hid hb
  clear hH hb pl
  go_wp2_with fail
  go_quiet (fail)
  rw [xm, ym]
  have C2 := Lib.hid (C1.out.below (drewN_below w1 nq))
  have B2 := Lib.hid (below_call B1.out (drewN_below w1 nq))
  clear C1 B1 xm ym g1 g2 g3 g4 g5
  generalize w1.drewN nq = w2 at *
  have sc := significant_c C2.out (x : Int) (y : Int)
  cases hs : q.s (x : Int) (y : Int) with
  | true =>
    rw [hs] at sc
    clear hs
    go_wp2_with (first | (go_at_call 32; (with_reducible refine sc.mono ?_); rintro e wn ⟨rfl, rfl⟩))
    refine (ex14_c _).mono ?_
    rintro e w4 ⟨rfl, hb⟩
    have B4 := Lib.hid (below_call B2.out hb)
    clear hb
    go_wp2_with fail
    go_ret
    exact ⟨rfl, B4.out⟩
  | false =>
    rw [hs] at sc
    have HS := Lib.hid hs
    clear hs
    have c1 := counts_c C2.out HW.out.2.1 HW.out.2.2.2 false
    go_wp2_with (first | (go_at_call 32; (with_reducible refine sc.mono ?_); rintro e wn ⟨rfl, rfl⟩))
    refine c1.mono ?_
    rintro e w3 ⟨sa, ma, rfl, hH, hb⟩
    have C3 := Lib.hid (C2.out.below hb)
    have B3 := Lib.hid (below_call B2.out hb)
    have LA3 := Lib.hid hH
    have Z3 := Lib.hid (And.intro C2.out hb.size)
    have c2 := counts_c C3.out HW.out.2.1 HW.out.2.2.2 true
    clear hH hb c1 sc B2
    go_wp2_with fail
    refine c2.mono ?_
    rintro e w4 ⟨sb, mb, rfl, hH, hb⟩
    have C4 := Lib.hid (C3.out.below hb)
    have B4 := Lib.hid (below_call B3.out hb)
    have LA4 := Lib.hid (And.intro (LA3.out.1.call hb) LA3.out.2)
    have LB4 := Lib.hid hH
    have mk := mark_c C4.out (x : Int) (y : Int)
    have hin : inB w h (x : Int) (y : Int) := by have := HX.out; unfold inB; omega
    unfold atE markQ at mk
    rw [if_pos hin, if_pos hin] at mk
    have HIN := Lib.hid hin
    obtain ⟨q', hq'⟩ : ∃ q' : St, q' = { q with s := upd q.s (x : Int) (y : Int) true } := ⟨_, rfl⟩
    rw [← hq'] at mk
    have HQ := Lib.hid hq'
    clear hH hb c2 B3 LA3 hin hq'
    go_wp2_with fail
    refine mk.mono ?_
    rintro e w5 ⟨rfl, hC, hK⟩
    have C5 := Lib.hid hC
    have B5 := Lib.hid (B4.out.trans (hK.below (fun k hk => by have g := C4.out.geV; have g1 := C4.out.geS; have g2 := C4.out.geT; have g3 := C4.out.geR; simp at hk; rcases hk with rfl | rfl | rfl | rfl <;> assumption) B4.out.size))
    have LA5 : Hid (HoldsI w5 sa (cntL q w false h)) := LA4.out.1.kb LA4.out.2 hK (fun k hk => by have g := Z3.out.1.gv.lt; have g1 := Z3.out.1.gs.lt; have g2 := Z3.out.1.gt.lt; have g3 := Z3.out.1.gr.lt; simp at hk; rcases hk with rfl | rfl | rfl | rfl <;> assumption)
    have LB5 : Hid (HoldsI w5 sb (cntL q w true h)) := LB4.out.1.kb LB4.out.2 hK (fun k hk => by have g := C3.out.gv.lt; have g1 := C3.out.gs.lt; have g2 := C3.out.gt.lt; have g3 := C3.out.gr.lt; simp at hk; rcases hk with rfl | rfl | rfl | rfl <;> assumption)
    have c3 := counts_c C5.out HW.out.2.1 HW.out.2.2.2 false
    clear hC hK mk C4 B4 LA4 LB4 Z3 C3 C2
    go_wp2_with fail
    refine c3.mono ?_
    rintro e w6 ⟨sc, mc, rfl, hH, hb⟩
    have C6 := Lib.hid (C5.out.below hb)
    have B6 := Lib.hid (below_call B5.out hb)
    have LA6 := Lib.hid (LA5.out.call hb)
    have LB6 := Lib.hid (LB5.out.call hb)
    have gr := grown_c (cntL q w false h) (cntL q' w false h) sa sc ma mc w h (x : Int) (y : Int) false w6 HW.out.2.1 HW.out.2.2.2 HIN.out LA6.out hH.1 (cntL_len _ _ _ _) (cntL_len _ _ _ _) (grows HS.out HQ.out)
    clear hH hb c3 C5 B5 LA5 LB5
    go_wp2_with fail
    refine gr.mono ?_
    rintro e w7 ⟨rfl, hb⟩
    have C7 := Lib.hid (C6.out.below hb)
    have B7 := Lib.hid (below_call B6.out hb)
    have LB7 := Lib.hid (LB6.out.call hb)
    have c4 := counts_c C7.out HW.out.2.1 HW.out.2.2.2 true
    clear hb gr C6 B6 LA6 LB6
    go_wp2_with fail
    refine c4.mono ?_
    rintro e w8 ⟨sd, md, rfl, hH, hb⟩
    have C8 := Lib.hid (C7.out.below hb)
    have B8 := Lib.hid (below_call B7.out hb)
    have LB8 := Lib.hid (LB7.out.call hb)
    have gr := grown_c (cntL q w true h) (cntL q' w true h) sb sd mb md w h (x : Int) (y : Int) true w8 HW.out.2.1 HW.out.2.2.2 HIN.out LB8.out hH.1 (cntL_len _ _ _ _) (cntL_len _ _ _ _) (grows HS.out HQ.out)
    clear hH hb c4 C7 B7 LB7
    go_wp2_with fail
    refine gr.mono ?_
    rintro e w9 ⟨rfl, hb⟩
    have C9 := Lib.hid (C8.out.below hb)
    have B9 := Lib.hid (below_call B8.out hb)
    clear hb gr C8 B8 LB8
    go_wp2_with fail
    go_loopw [13] (fun i wr => ∃ v : Nat, v ≤ h ∧ i = .int .i64 (v : Int) ∧ Hid (Cb wr W.heap.size A V S T R w h q' ∧ Below W.heap.size W wr)) (fun i _ => h - (intOf i).toNat)
    case atStart => exact ⟨0, Nat.zero_le _, rfl, C9.out, B9.out⟩
    case round =>
      obtain ⟨v, hv, rfl, hT⟩ := hrel
      have hh12 := HW.out.2.2.2
      by_cases hlv : v < h
      · have T0 := Lib.hid hT.out
        clear hT
        go_wp2_with fail
        go_loopw [14] (fun i wr => ∃ u : Nat, u ≤ w ∧ i = .int .i64 (u : Int) ∧ Hid (Cb wr W.heap.size A V S T R w h q' ∧ Below W.heap.size W wr)) (fun i _ => w - (intOf i).toNat)
        case atStart => exact ⟨0, Nat.zero_le _, rfl, T0.out⟩
        case round =>
          obtain ⟨u, hu, rfl, hT⟩ := hrel
          have hw12 := HW.out.2.1
          by_cases hlu : u < w
          · have n1 := nb_y hT.out.1 (u : Int) (v : Int) true (by unfold inB; omega)
            have T1 := Lib.hid hT.out
            have s1 := jnt_in (sg q' ((u : Int) - 1) v) (sg q' ((u : Int) + 1) v)
            have s2 := jnt_in (sg q' (u : Int) ((v : Int) - 1)) (if hid (v : Int) true then 0 else sg q' (u : Int) ((v : Int) + 1))
            have s1' : -1 ≤ sgH q' (u : Int) (v : Int) ∧ sgH q' (u : Int) (v : Int) ≤ 1 := s1
            have s2' : -1 ≤ sgV q' (u : Int) (v : Int) true ∧ sgV q' (u : Int) (v : Int) true ≤ 1 := s2
            have z1 : nbH q' (u : Int) (v : Int) = 0 → sgH q' (u : Int) (v : Int) = 0 := nbH_zero
            have z2 : nbV q' (u : Int) (v : Int) true = 0 → sgV q' (u : Int) (v : Int) true = 0 := nbV_zero
            have g0 := fun (X : World) (hX : Below wr.heap.size wr X) => sgs_y (T1.out.1.below hX) (u : Int) (v : Int) true (by unfold inB; omega)
            generalize nbH q' (u : Int) (v : Int) = a at *
            generalize nbV q' (u : Int) (v : Int) true = b at *
            generalize nbD q' (u : Int) (v : Int) true = d at *
            generalize sgH q' (u : Int) (v : Int) = e1 at *
            generalize sgV q' (u : Int) (v : Int) true = e2 at *
            have Z := Lib.hid (And.intro s1' (And.intro s2' (And.intro z1 z2)))
            have G0 := Lib.hid g0
            clear hT s1 s2 s1' s2' z1 z2 g0
            go_wp2_with fail
            refine n1.mono ?_
            rintro e w10 ⟨rfl, hb⟩
            have g1 := G0.out w10 hb
            have T2 : Hid (Cb w10 W.heap.size A V S T R w h q' ∧ Below W.heap.size W w10) := ⟨T1.out.1.below hb, below_call T1.out.2 hb⟩
            clear hb n1 T1 G0
            have d1 : ¬ e1 < -1 := by have := Z.out; omega
            have d2 : ¬ 1 < e1 := by have := Z.out; omega
            have d3 : ¬ e2 < -1 := by have := Z.out; omega
            have d4 : ¬ 1 < e2 := by have := Z.out; omega
            by_cases h1 : a = 0
            · obtain rfl : e1 = 0 := Z.out.2.2.1 h1
              subst h1
              by_cases h2 : b = 0
              · obtain rfl : e2 = 0 := Z.out.2.2.2 h2
                subst h2
                clear Z
                go_wp2_with (first | (go_at_call 39; (with_reducible refine g1.mono ?_); rintro e wn ⟨rfl, rfl⟩))
                go_roundw
                case rel => exact ⟨u + 1, by omega, by go_num, T2⟩
                case measure => simp [intOf]; omega
              · have b0 : (b == 0) = false := by simpa using h2
                clear Z h2
                go_wp2_with (first | (go_at_call 39; (with_reducible refine g1.mono ?_); rintro e wn ⟨rfl, rfl⟩))
                go_roundw
                case rel => exact ⟨u + 1, by omega, by go_num, T2⟩
                case measure => simp [intOf]; omega
            · have a0 : (a == 0) = false := by simpa using h1
              by_cases h2 : b = 0
              · obtain rfl : e2 = 0 := Z.out.2.2.2 h2
                subst h2
                clear Z h1
                go_wp2_with (first | (go_at_call 39; (with_reducible refine g1.mono ?_); rintro e wn ⟨rfl, rfl⟩))
                go_roundw
                case rel => exact ⟨u + 1, by omega, by go_num, T2⟩
                case measure => simp [intOf]; omega
              · have b0 : (b == 0) = false := by simpa using h2
                clear Z h1 h2
                go_wp2_with (first | (go_at_call 39; (with_reducible refine g1.mono ?_); rintro e wn ⟨rfl, rfl⟩))
                go_roundw
                case rel => exact ⟨u + 1, by omega, by go_num, T2⟩
                case measure => simp [intOf]; omega
          · obtain rfl : u = w := by omega
            have T1 := Lib.hid hT.out
            clear hT
            go_wp2_with fail
            go_roundw
            case rel => exact ⟨v + 1, by omega, by go_num, T1⟩
            case measure => simp [intOf]; omega
      · obtain rfl : v = h := by omega
        have B9 := Lib.hid hT.out.2
        clear hT
        go_wp2_with fail
        refine (ex14_c _).mono ?_
        rintro e w4 ⟨rfl, hb⟩
        have B4 := Lib.hid (below_call B9.out hb)
        clear hb
        go_wp2_with fail
        go_ret
        exact ⟨rfl, B4.out⟩
theorem walk (w h : Int) (l : List OpV) (s : Option Addr) (m : Nat) (W : World) (HO : HoldsO W s l) : Calls Try.prog 8 #[.int .i64 w, .int .i64 h, .slice s l.length m] W fun e w' => e = .returned (.bool true) ∧ Below W.heap.size W w' := by
  by_cases hs : 1 ≤ w ∧ w ≤ 12 ∧ 1 ≤ h ∧ h ≤ 12 ∧ l.length ≤ 100
  · obtain ⟨w0, rfl⟩ : ∃ n : Nat, w = n := ⟨w.toNat, by omega⟩
    obtain ⟨h0, rfl⟩ : ∃ n : Nat, h = n := ⟨h.toNat, by omega⟩
    exact yes w0 h0 (by omega) (by omega) (by omega) (by omega) l s m W HO (by omega)
  · have sm := small_c w h s l.length m W
    rw [decide_eq_false hs] at sm
    clear hs HO
    go_enter Try.func8, Try.ntmps8
    go_wp2_with (first | (go_at_call 18; (with_reducible refine sm.mono ?_); rintro e wn ⟨rfl, rfl⟩))
    refine (ex14_c _).mono ?_
    rintro e w4 ⟨rfl, hb⟩
    have B4 := Lib.hid hb
    clear hb
    go_wp2_with fail
    go_ret
    exact ⟨rfl, B4.out⟩

set_option maxRecDepth 100000 in
theorem lifted (os : Os) (started : os.Started) (H : Type) (enc : TypeId × Value → H) :
    ReturnsInHanded {} Try.checked os 8 .any (Rows.cblkGrowsSpec.pre6 enc Try.prog Try.f8 Rows.cblkGrowsRow.domain false) (Rows.cblkGrowsSpec.post enc Try.prog Try.f8 false true false false) := by
  refine returnsInHanded_of_change (C := Try.checked) own started (by kernel_rfl) Try.func8
    (ChangeSpec.witness6 (enc := enc) (C := Try.checked) false ⟨#[], #[.int .i64 0, .int .i64 0, .slice none 0 0], []⟩ 8 (by kernel_rfl) (by kernel_rfl) (by kernel_rfl) (by kernel_rfl)) ?_
  intro W base args ds gs before hval0 hW _ _
  have hval : ∀ (j : Nat) t v, Try.f8.params[j]? = some t → args[j]? = some v → Value.okWide Try.prog W .any base t v := hval0
  have hW' := hW
  obtain ⟨p, q, hA0, hV, rfl, _, _⟩ := hW
  have hA : DataW.TrodAll enc Try.prog W 0 (fun _ => true) true Try.f8.params.toList args.toList ds p := hA0
  rw [Try.params8] at hA hval
  obtain ⟨v0, vs0, d0, ds0, p0, q0, hargs, rfl, rfl, h0, r0⟩ := trodAll_cons hA
  obtain ⟨v1, vs1, d1, ds1, p1, q1, rfl, rfl, rfl, h1, r1⟩ := trodAll_cons r0
  obtain ⟨v2, vs2, d2, ds2, p2, q2, rfl, rfl, rfl, h2, r2⟩ := trodAll_cons r1
  obtain ⟨rfl, rfl, rfl⟩ := trodAll_nil r2
  obtain rfl : args = #[v0, v1, v2] := by cases args; simp_all
  obtain ⟨rfl, rfl⟩ := trodVars_none hV
  clear hA0 hval0
  simp only [List.append_nil] at hW'
  have l0 : ∀ x ∈ p0, x.block < W.heap.size := fun x hx => hW'.lt x (by simp [hx])
  have l1 : ∀ x ∈ p1, x.block < W.heap.size := fun x hx => hW'.lt x (by simp [hx])
  have l2 : ∀ x ∈ p2, x.block < W.heap.size := fun x hx => hW'.lt x (by simp [hx])
  obtain ⟨i0, rfl, _, _, wi0⟩ := open_int Try.underlying3 (hval 0 3 v0 rfl rfl) h0
  obtain ⟨i1, rfl, _, _, wi1⟩ := open_int Try.underlying3 (hval 1 3 v1 rfl rfl) h1
  obtain ⟨s2, o2, m2, rfl, hO2⟩ := open_ops (hval 2 22 v2 rfl rfl) h2
  refine (walk i0 i1 o2 s2 m2 W hO2).mono fun e W' ⟨he, hb⟩ => ?_
  subst he
  exact ⟨_, rfl, post_low (pa := p0 ++ (p1 ++ (p2 ++ ([])))) (pv := []) hW' (fun _ _ _ => (trodAll_cons_mk (shut_bool Try.underlying4 _) trodAll_mk0)) (fun sp hsp => (trodAll_cons_mk (trod_low laidOut (by kernel_rfl) (of_decide_eq_true (by kernel_rfl)) h0 hb l0 (fun x hx => hsp x (by simp [hx]))) (trodAll_cons_mk (trod_low laidOut (by kernel_rfl) (of_decide_eq_true (by kernel_rfl)) h1 hb l1 (fun x hx => hsp x (by simp [hx]))) (trodAll_cons_mk (trod_low laidOut (by kernel_rfl) (of_decide_eq_true (by kernel_rfl)) h2 hb l2 (fun x hx => hsp x (by simp [hx]))) trodAll_mk0)))) (fun _ _ => rfl) (by simp) hb (ok_one (by kernel_rfl) rfl (okWide_bool_mk Try.underlying4 _))⟩

theorem over : Rows.cblkGrowsRow.holds Try.pinned (OpenSpec.ofChange Rows.cblkGrowsSpec) :=
  OpenClaim.holds_of_wide 8 Try.f8 rfl rfl rfl rfl rfl rfl rfl ⟨rfl, rfl, rfl, rfl, rfl⟩ rfl rfl rfl rfl rfl (by kernel_rfl) Try.func8 (by kernel_rfl)
    (of_decide_eq_true (by kernel_rfl)) (by unfold Func.isWrapper; first | (rw [if_pos (by decide +kernel)]; kernel_rfl) | (rw [if_neg (by decide +kernel)]; exact ⟨rfl, rfl⟩))
    (fun os started H enc _ => lifted os started H enc)

theorem proved : Rows.CblkGrowsSaid :=
  over
#print axioms proved
end Go.Proofs.Ytdpfojenljejiaa.cblkGrows
