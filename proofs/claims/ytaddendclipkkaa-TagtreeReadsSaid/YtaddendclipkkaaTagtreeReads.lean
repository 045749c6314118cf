/-
  For all sizes, bytes and lists of calls the statement TagtreeReads returns true; they read afterwards as before.
  Conditions: none beyond those of the given statement.
-/
import Derived.Test.YtaddendclipkkaaUm
import Derived.Test.YtaddendclipkkaaTn
import Derived.Test.YtaddendclipkkaaTx
set_option maxRecDepth 100000
namespace Go.Proofs.Ytaddendclipkkaa.tagtreeReads
open Go.ChangeShapes Go.WideShapes Go.ChangeAt Go.RowKit Go.Joins Go.Deep

theorem box3 {W : World} {q : Nat} {a0 a1 a2 a3 : Int} (h : W.cell? ⟨q, 0, none⟩ = some (.int .i64 a0) ∧ W.cell? ⟨q, 1, none⟩ = some (.int .i64 a1) ∧ W.cell? ⟨q, 2, none⟩ = some (.int .i64 a2) ∧ W.cell? ⟨q, 3, none⟩ = some (.int .i64 a3)) : W.cell? ⟨q, 1, none⟩ = some (.int .i64 a1) ∧ W.cell? ⟨q, 2, none⟩ = some (.int .i64 a2) ∧ W.cell? ⟨q, 3, none⟩ = some (.int .i64 a3) := h.2
set_option maxHeartbeats 8000000 in
theorem yes (wd ht : Nat) (hok : okN (wd : Int) (ht : Int)) (l : List OpT) (s : Option Addr) (m : Nat) (lb : List Int) (sb : Option Addr) (mb : Nat) (W : World) (HO : HoldsT W s l) (HB : HoldsB W sb lb) (HY : Bi.bytes lb) (HN : sb = none → lb = [] ∧ mb = 0) :
    Calls Try.prog 6 #[.agg #[.int .i64 (wd : Int), .int .i64 (ht : Int), .slice sb lb.length mb, .slice s l.length m]] W fun e w' => e = .returned (.bool true) ∧ Below W.heap.size W w' := by
  have n1 := fun X => tnew_yes wd ht hok X
  have n2 := fun X => unew_yes wd ht hok X
  have OK := Lib.hid hok
  clear hok
  obtain ⟨x0, hx0⟩ : ∃ x0, x0 = W.alloc (.cells #[.int .i64 (wd : Int), .int .i64 (ht : Int), .slice sb lb.length mb, .slice s l.length m] 63) := ⟨_, rfl⟩
  have hA0 := below_alloc (Below.refl _ W) (.cells #[.int .i64 (wd : Int), .int .i64 (ht : Int), .slice sb lb.length mb, .slice s l.length m] 63)
  have BI0 := Blk.new W 63 #[.int .i64 (wd : Int), .int .i64 (ht : Int), .slice sb lb.length mb, .slice s l.length m]
  rw [← hx0] at hA0 BI0
  have BI := Lib.hid BI0
  have B0 := Lib.hid hA0
  have HO1 := Lib.hid HO
  have HB1 := Lib.hid (HB.call hA0)
  have HY1 := Lib.hid HY
  have HN1 := Lib.hid HN
  have sm := small_c (wd : Int) (ht : Int) l s m x0 (HO.call hA0)
  obtain ⟨i0, i1, i2, i3⟩ : x0.cell? ⟨W.heap.size, 0, none⟩ = some (.int .i64 (wd : Int)) ∧ x0.cell? ⟨W.heap.size, 1, none⟩ = some (.int .i64 (ht : Int)) ∧ x0.cell? ⟨W.heap.size, 2, none⟩ = some (.slice sb lb.length mb) ∧ x0.cell? ⟨W.heap.size, 3, none⟩ = some (.slice s l.length m) := ⟨BI0.cell 0, BI0.cell 1, BI0.cell 2, BI0.cell 3⟩
  have BC := Lib.hid (fun (X : World) (hX : Below x0.heap.size x0 X) => (show X.cell? ⟨W.heap.size, 0, none⟩ = some (.int .i64 (wd : Int)) ∧ X.cell? ⟨W.heap.size, 1, none⟩ = some (.int .i64 (ht : Int)) ∧ X.cell? ⟨W.heap.size, 2, none⟩ = some (.slice sb lb.length mb) ∧ X.cell? ⟨W.heap.size, 3, none⟩ = some (.slice s l.length m) from ⟨(BI.out.below hX).cell 0, (BI.out.below hX).cell 1, (BI.out.below hX).cell 2, (BI.out.below hX).cell 3⟩))
  have HX0 := Lib.hid hx0
  clear hA0 HO HB HY HN BI0
  go_enter Try.func6, Try.ntmps6
  rw [hx0] at i0 i1 i2 i3 sm
  clear hx0
  go_wp2_with fail
  rw [← HX0.out] at sm i0 i1 i2 i3 ⊢
  refine sm.mono ?_
  rintro e w1 ⟨z, rfl, hz, hb⟩
  have B1 := Lib.hid hb
  clear hb sm i0 i1 i2 i3
  obtain ⟨i0, i1, i2, i3⟩ := BC.out w1 B1.out
  have BW := Lib.hid (below_call B0.out B1.out)
  cases z with
  | false =>
    clear hz n1 n2
    go_wp2_with fail
    refine (ex10_c _).mono ?_
    rintro e wz ⟨rfl, hb⟩
    have BZ := Lib.hid (below_call BW.out hb)
    clear hb
    go_wp2_with fail
    go_ret
    exact ⟨rfl, BZ.out⟩
  | true =>
  have HL := Lib.hid (hz rfl).2.2
  clear hz
  by_cases h300 : (300 : Int) < (lb.length : Int)
  · clear n1 n2
    go_wp2_with fail
    refine (ex10_c _).mono ?_
    rintro e wz ⟨rfl, hb⟩
    have BZ := Lib.hid (below_call BW.out hb)
    clear hb
    go_wp2_with fail
    go_ret
    exact ⟨rfl, BZ.out⟩
  have HB300 : Hid (lb.length ≤ 300) := Lib.hid (by omega)
  go_wp2_with fail
  refine (n1 _).mono ?_
  rintro e w2 ⟨rfl, hT, hb⟩
  obtain ⟨D, hD⟩ : ∃ D, D = dep wd ht := ⟨_, rfl⟩
  rw [← hD] at hT
  have T2 := Lib.hid (And.intro (hT.lower BW.out.size) (below_call B1.out hb))
  have HDD := Lib.hid hD
  clear hT hb n1 hD i0 i1 i2 i3
  obtain ⟨i0, i1, i2, i3⟩ := BC.out w2 T2.out.2
  generalize w1.heap.size + 1 = A at *
  generalize (fun i => w1.heap.size + 2 + i) = nd at *
  obtain ⟨L, hLL⟩ : ∃ L, L = w1.heap.size := ⟨_, rfl⟩
  rw [← hLL] at T2
  clear hLL
  go_wp2_with fail
  refine (n2 _).mono ?_
  rintro e w3 hU
  have hur := ur_new OK.out hU
  rw [← HDD.out] at hur
  obtain ⟨rfl, hb, _, _⟩ := hU
  have T3 := Lib.hid (And.intro (T2.out.1.below hb) (And.intro (hur.lower (Nat.le_trans B0.out.size T2.out.2.size)) (below_call T2.out.2 hb)))
  generalize w2.heap.size + 1 = b at *
  generalize w2.heap.size = g at *
  clear hur hb n2 T2 i0 i1 i2 i3
  go_upto_region 7 with fail
  obtain ⟨i0, i1, i2, i3⟩ := BC.out w3 T3.out.2.2
  have BD := Lib.hid (below_call T3.out.2.2 (Below.refl _ w3).drew)
  have D3 := Lib.hid (Below.refl w3.heap.size w3).drew
  have j2 := (BC.out w3.drew BD.out).2.2.1
  have rn := fun (X : World) (hX : Below x0.heap.size x0 X) => rnew_c X lb sb mb (HB1.out.call hX) HN1.out (by have := HB300.out; omega)
  have sn := fun (X : World) (hX : Below x0.heap.size x0 X) => snew_c X lb sb mb (HB1.out.call hX) HN1.out (by have := HB300.out; omega)
  have r1 := rn w3 T3.out.2.2
  have r1d := rn w3.drew BD.out
  clear rn i0 i1 i3
  go_cut [7, 8] (fun s7 s8 wx => ∃ a r, s7 = .pointer (some ⟨a, 0, none⟩) ∧ s8 = .pointer (some ⟨r, 0, none⟩) ∧ Hid (Rq W A L nd b a r wd ht D 0 (mkQ wd ht xf0 xl0 xb0) 0 (fun _ _ _ => ⟨0, 0, false⟩) lb 0 0 [] wx ∧ Below x0.heap.size x0 wx))
  case first =>
    go_region_held3 (fun w' => w'.cell? ⟨W.heap.size, 2, none⟩ = some (.slice sb lb.length mb))
      (first | (with_reducible exact i2) | (with_reducible exact j2) | (with_reducible exact k2) | (with_reducible exact k3) | fail)
      (first | (go_at_call 14; first | ((with_reducible refine r1.mono ?_); rintro e x1 ⟨a, rfl, hR, hb⟩; have X1 := Lib.hid (And.intro hR (And.intro hb T3.out)); have C1 := Lib.hid (below_call T3.out.2.2 hb); have k2 := (BC.out x1 C1.out).2.2.1; have s1 := sn x1 C1.out) | ((with_reducible refine r1d.mono ?_); rintro e x1 ⟨a, rfl, hR, hb⟩; have X1 := Lib.hid (And.intro hR (And.intro hb (And.intro (T3.out.1.below D3.out) (And.intro (T3.out.2.1.below D3.out) BD.out)))); have C1 := Lib.hid (below_call BD.out hb); have k2 := (BC.out x1 C1.out).2.2.1; have s1 := sn x1 C1.out)) | (go_at_call 15; (with_reducible refine s1.mono ?_); rintro e x2 ⟨r, rfl, hS, hb2⟩; have X2 := Lib.hid (And.intro hS hb2); have C2 := Lib.hid (below_call C1.out hb2); have k3 := (BC.out x2 C2.out).2.2.1) | fail)
    all_goals
      go_wp2_with fail
      go_meet
      refine ⟨a, r, rfl, rfl, ?_, C2.out⟩
      have z0 := B0.out.size
      have z1 := X1.out.2.2.2.2.size
      have z2 := X1.out.2.1.size
      have hR2 := X1.out.1.below X2.out.2
      exact ⟨(X1.out.2.2.1.below X1.out.2.1).below X2.out.2, ⟨g, (X1.out.2.2.2.1.below X1.out.2.1).below X2.out.2⟩, hR2.low (by omega), Sp.lower X2.out.1 (by omega), ⟨Nat.zero_le _, Nat.zero_le _⟩, Dj.new X2.out.2 X1.out.1.fl (fun k hk => (X2.out.1.foot k hk).1), below_call B0.out C2.out, fun p hp => by simp at hp⟩
  case rest =>
  obtain ⟨a, r, rfl, rfl, hC⟩ := hcut
  have S0 := Lib.hid hC.out
  obtain ⟨wq, hwq⟩ : ∃ wq, wq = wc := ⟨_, rfl⟩
  have c3 := (BC.out wc S0.out.2).2.2.2
  clear hC r1 r1d sn i2 j2 hwq
  go_wp2_with fail
  go_loopw [62] (fun i wr => ∃ (k : Nat) (u : Int) (Qc Qr : Nat → Nat → Nat → Nd) (tt : Nat), k ≤ l.length ∧ i = .int .i64 (k : Int) ∧ Hid (Rq W A L nd b a r wd ht D u Qc u Qr lb tt tt [] wr ∧ Rl wd ht u Qc Qr)) (fun i _ => l.length - (intOf i).toNat)
  case atStart => exact ⟨0, 0, _, _, 0, Nat.zero_le _, rfl, S0.out.1, Rl.new wd ht⟩
  case round =>
    obtain ⟨k, u, Qc, Qr, tt, hk, rfl, hT⟩ := hrel
    have hl100 := HL.out
    by_cases hlt : k < l.length
    · obtain ⟨g0, off, hs, oo⟩ := (HO1.out.call hT.out.1.below).at hlt
      subst hs
      obtain ⟨o0, o1, o2, o3⟩ := oo
      generalize l[k] = o at *
      obtain ⟨ok, ox, oy, ov⟩ := o
      dsimp only at *
      have hA := below_alloc (Below.refl _ wr) (.cells #[.int .i64 ok, .int .i64 ox, .int .i64 oy, .int .i64 ov] 56)
      have SA := Lib.hid ((hT.out.1.step hA).box (Bo.new wr ⟨ok, ox, oy, ov⟩))
      have RL := Lib.hid hT.out.2
      have hus := Lib.hid hT.out.1.t.us
      clear hA hT
      by_cases hk0 : ok = 0
      · subst hk0
        have c1f := fun (X : World) (h : Tr X W.heap.size A L nd wd ht D u Qc) => setJ h RL.out.jv ox oy ov
        have RN := Lib.hid (RL.out.set ox oy ov)
        have c2 := fun (X : World) (g : Nat) (h : Ur X W.heap.size b g wd ht D u Qr) => uset_c h ox oy ov
        have hee : (stE u wd ht ox oy ov != stE u wd ht ox oy ov) = false := by simp
        generalize stE u wd ht ox oy ov = ee at *
        generalize seQ u wd ht Qc ox oy ov = Qc1 at *
        generalize usQ wd ht u Qr ox oy ov = Qr1 at *
        go_upto_region 13 with fail
        clear o0 o1 o2 o3
        generalize wr.heap.size = q at *
        generalize wr.alloc (.cells #[.int .i64 0, .int .i64 ox, .int .i64 oy, .int .i64 ov] 56) = w6 at *
        have SD := Lib.hid (SA.out.step (Below.refl _ w6).drew)
        have K0 := box3 SA.out.cells
        have KD := box3 SD.out.cells
        have c1 := c1f _ SA.out.t
        have c1d := c1f _ SD.out.t
        clear c1f
        dsimp only at K0 KD
        go_cut [86] (fun s86 wx => s86 = .bool false ∧ Hid (Rq W A L nd b a r wd ht D u Qc1 u Qr1 lb tt tt [] wx))
        case first =>
          go_region_held3 (fun w' => w'.cell? ⟨q, 1, none⟩ = some (.int .i64 ox) ∧ w'.cell? ⟨q, 2, none⟩ = some (.int .i64 oy) ∧ w'.cell? ⟨q, 3, none⟩ = some (.int .i64 ov))
            (first | (with_reducible exact K0) | (with_reducible exact KD) | (with_reducible exact K1) | (with_reducible exact K2) | fail)
            (first | (go_at_call 33; first | ((with_reducible refine c1.mono ?_); rintro e x1 ⟨rfl, hT1, hF1⟩; have S1 := Lib.hid (SA.out.codeS hT1 hF1); have K1 := box3 S1.out.cells) | ((with_reducible refine c1d.mono ?_); rintro e x1 ⟨rfl, hT1, hF1⟩; have S1 := Lib.hid (SD.out.codeS hT1 hF1); have K1 := box3 S1.out.cells)) | (go_at_call 34; (with_reducible refine (c2 _ _ S1.out.ru.choose_spec).mono ?_); rintro e x2 ⟨rfl, hT2, hF2⟩; have S2 := Lib.hid (S1.out.refS S1.out.ru.choose_spec hT2 hF2); have K2 := box3 S2.out.cells) | fail)
          all_goals
            go_wp2_with fail
            go_meet
            exact ⟨rfl, S2.out.drop⟩
        case rest =>
          obtain ⟨rfl, T6⟩ := hcut
          clear c1 c2 c1d K0 KD
          go_wp2_with fail
          go_roundw
          case rel => exact ⟨k + 1, u, Qc1, Qr1, tt, by omega, by go_num, T6.out, RN.out⟩
          case measure => simp [intOf]; omega
      have g0' : (ok == 0) = false := by simpa using hk0
      by_cases hk2 : ok = 2
      · subst hk2
        have c1 := value_c SA.out.t ox oy
        have RV := RL.out.val hus.out ox oy
        have c2 := fun (X : World) (g : Nat) (h : Ur X W.heap.size b g wd ht D u Qr) => uvalue_c h ox oy
        rw [RV.1, RV.2] at c2
        obtain ⟨q0, q1, q2, q3⟩ := SA.out.cells
        dsimp only at q0 q1 q2 q3
        have hv1 : (vlV wd ht Qc ox oy != vlV wd ht Qc ox oy) = false := by simp
        have hv2 : (vlB wd ht Qc ox oy != vlB wd ht Qc ox oy) = false := by simp
        generalize vlV wd ht Qc ox oy = vv at *
        generalize vlB wd ht Qc ox oy = vb at *
        clear RV
        go_wp2_with fail
        refine c1.mono ?_
        rintro e w7 ⟨rfl, hb⟩
        have S7 := Lib.hid (SA.out.step hb)
        obtain ⟨gq, hgq⟩ := S7.out.ru
        have hx := c2 _ _ hgq
        obtain ⟨q0, q1, q2, q3⟩ := S7.out.cells
        dsimp only at q0 q1 q2 q3
        clear c1 c2 hb o0 o1 o2 o3 hgq
        go_wp2_with fail
        refine hx.mono ?_
        rintro e w8 ⟨rfl, hb⟩
        have S8 := Lib.hid (S7.out.step hb)
        clear hx hb q0 q1 q2 q3
        go_wp2_with fail
        go_roundw
        case rel => exact ⟨k + 1, u, Qc, Qr, tt, by omega, by go_num, S8.out.drop, RL.out⟩
        case measure => simp [intOf]; omega
      have g2' : (ok == 2) = false := by simpa using hk2
      by_cases hk3 : ok = 3
      · subst hk3
        have hlb : lb.length ≤ 100000000 := by have := HB300.out; omega
        have c1 := decode_c SA.out.t SA.out.rd SA.out.le.1 HY1.out hlb ox oy ov
        have RN := RL.out.dec (D := D) (tt := tt) (bs := lb) hus.out ox oy ov
        have c2 := fun (X : World) (g : Nat) (h : Ur X W.heap.size b g wd ht D u Qr) (hS : Sd X W.heap.size r lb tt) => udec_c h hS SA.out.le.2 HY1.out hlb ox oy ov
        rw [RN.1, RN.2.1, RN.2.2.1, RN.2.2.2.1] at c2
        have RN5 := Lib.hid RN.2.2.2.2
        obtain ⟨q0, q1, q2, q3⟩ := SA.out.cells
        dsimp only at q0 q1 q2 q3
        have hv1 : (deE lb Qc wd ht D u tt ox oy ov != deE lb Qc wd ht D u tt ox oy ov) = false := by simp
        have hv2 : (deB lb Qc wd ht D u tt ox oy ov != deB lb Qc wd ht D u tt ox oy ov) = false := by simp
        clear RN
        generalize deE lb Qc wd ht D u tt ox oy ov = ee at *
        generalize deB lb Qc wd ht D u tt ox oy ov = db at *
        generalize deT lb Qc wd ht D u tt ox oy ov = t1 at *
        generalize deU lb Qc wd ht D u tt ox oy ov = u1 at *
        generalize deQ lb Qc wd ht D u tt ox oy ov = Qc1 at *
        generalize deQ lb Qr wd ht D u tt ox oy ov = Qr1 at *
        go_wp2_with fail
        refine c1.mono ?_
        rintro e w7 ⟨rfl, hE⟩
        have S7 := Lib.hid (SA.out.codeD hE)
        obtain ⟨gq, hgq⟩ := S7.out.ru
        have HG := Lib.hid hgq
        have hx := c2 _ _ hgq S7.out.sd
        obtain ⟨q0, q1, q2, q3⟩ := S7.out.cells
        dsimp only at q0 q1 q2 q3
        clear c1 c2 hE o0 o1 o2 o3 hgq
        go_wp2_with fail
        refine hx.mono ?_
        rintro e w8 ⟨rfl, hE⟩
        have S8 := Lib.hid (S7.out.refD HG.out hE)
        clear hx hE q0 q1 q2 q3
        go_wp2_with fail
        go_roundw
        case rel => exact ⟨k + 1, u1, Qc1, Qr1, t1, by omega, by go_num, S8.out.drop, RN5.out⟩
        case measure => simp [intOf]; omega
      have g3' : (ok == 3) = false := by simpa using hk3
      clear hk0 hk2 hk3
      go_wp2_with fail
      go_roundw
      case rel => exact ⟨k + 1, u, Qc, Qr, tt, by omega, by go_num, SA.out.drop, RL.out⟩
      case measure => simp [intOf]; omega
    · obtain rfl : k = l.length := by omega
      have B7 := Lib.hid hT.out.1.below
      clear hT
      go_wp2_with fail
      refine (ex10_c _).mono ?_
      rintro e wz ⟨rfl, hb⟩
      have BZ := Lib.hid (below_call B7.out hb)
      clear hb
      go_wp2_with fail
      go_ret
      exact ⟨rfl, BZ.out⟩
set_option maxHeartbeats 8000000 in
theorem no (w h : Int) (hok : ¬ okN w h) (l : List OpT) (s : Option Addr) (m : Nat) (lb : List Int) (sb : Option Addr) (mb : Nat) (W : World) (HO : HoldsT W s l) (HB : HoldsB W sb lb) (HY : Bi.bytes lb) (HN : sb = none → lb = [] ∧ mb = 0) :
    Calls Try.prog 6 #[.agg #[.int .i64 w, .int .i64 h, .slice sb lb.length mb, .slice s l.length m]] W fun e w' => e = .returned (.bool true) ∧ Below W.heap.size W w' := by
  have n1 := tnew_no w h hok
  have n2 := unew_no w h hok
  have heq : (chE w h != chE w h) = false := by simp
  generalize chE w h = ce at *
  clear hok
  obtain ⟨x0, hx0⟩ : ∃ x0, x0 = W.alloc (.cells #[.int .i64 w, .int .i64 h, .slice sb lb.length mb, .slice s l.length m] 63) := ⟨_, rfl⟩
  have hA0 := below_alloc (Below.refl _ W) (.cells #[.int .i64 w, .int .i64 h, .slice sb lb.length mb, .slice s l.length m] 63)
  have BI0 := Blk.new W 63 #[.int .i64 w, .int .i64 h, .slice sb lb.length mb, .slice s l.length m]
  rw [← hx0] at hA0 BI0
  have BI := Lib.hid BI0
  have B0 := Lib.hid hA0
  have HO1 := Lib.hid HO
  have HB1 := Lib.hid (HB.call hA0)
  have HY1 := Lib.hid HY
  have HN1 := Lib.hid HN
  have sm := small_c w h l s m x0 (HO.call hA0)
  obtain ⟨i0, i1, i2, i3⟩ : x0.cell? ⟨W.heap.size, 0, none⟩ = some (.int .i64 w) ∧ x0.cell? ⟨W.heap.size, 1, none⟩ = some (.int .i64 h) ∧ x0.cell? ⟨W.heap.size, 2, none⟩ = some (.slice sb lb.length mb) ∧ x0.cell? ⟨W.heap.size, 3, none⟩ = some (.slice s l.length m) := ⟨BI0.cell 0, BI0.cell 1, BI0.cell 2, BI0.cell 3⟩
  have BC := Lib.hid (fun (X : World) (hX : Below x0.heap.size x0 X) => (show X.cell? ⟨W.heap.size, 0, none⟩ = some (.int .i64 w) ∧ X.cell? ⟨W.heap.size, 1, none⟩ = some (.int .i64 h) ∧ X.cell? ⟨W.heap.size, 2, none⟩ = some (.slice sb lb.length mb) ∧ X.cell? ⟨W.heap.size, 3, none⟩ = some (.slice s l.length m) from ⟨(BI.out.below hX).cell 0, (BI.out.below hX).cell 1, (BI.out.below hX).cell 2, (BI.out.below hX).cell 3⟩))
  have HX0 := Lib.hid hx0
  clear hA0 HO HB HY HN BI0
  go_enter Try.func6, Try.ntmps6
  rw [hx0] at i0 i1 i2 i3 sm
  clear hx0
  go_wp2_with fail
  rw [← HX0.out] at sm i0 i1 i2 i3 ⊢
  refine sm.mono ?_
  rintro e w1 ⟨z, rfl, hz, hb⟩
  have B1 := Lib.hid hb
  clear hb sm i0 i1 i2 i3
  obtain ⟨i0, i1, i2, i3⟩ := BC.out w1 B1.out
  have BW := Lib.hid (below_call B0.out B1.out)
  cases z with
  | false =>
    clear hz n1 n2
    go_wp2_with fail
    refine (ex10_c _).mono ?_
    rintro e wz ⟨rfl, hb⟩
    have BZ := Lib.hid (below_call BW.out hb)
    clear hb
    go_wp2_with fail
    go_ret
    exact ⟨rfl, BZ.out⟩
  | true =>
  have HL := Lib.hid (hz rfl).2.2
  clear hz
  by_cases h300 : (300 : Int) < (lb.length : Int)
  · clear n1 n2
    go_wp2_with fail
    refine (ex10_c _).mono ?_
    rintro e wz ⟨rfl, hb⟩
    have BZ := Lib.hid (below_call BW.out hb)
    clear hb
    go_wp2_with fail
    go_ret
    exact ⟨rfl, BZ.out⟩
  have HB300 : Hid (lb.length ≤ 300) := Lib.hid (by omega)
  go_upto_region 7 with (first | (go_at_call 27; (with_reducible refine (n1 _).mono ?_); rintro e wn ⟨rfl, rfl⟩) | (go_at_call 28; (with_reducible refine (n2 _).mono ?_); rintro e wn ⟨rfl, rfl⟩))
  have BD := Lib.hid (below_call B1.out (Below.refl _ w1).drew)
  have j2 := (BC.out w1.drew BD.out).2.2.1
  have rn := fun (X : World) (hX : Below x0.heap.size x0 X) => rnew_c X lb sb mb (HB1.out.call hX) HN1.out (by have := HB300.out; omega)
  have sn := fun (X : World) (hX : Below x0.heap.size x0 X) => snew_c X lb sb mb (HB1.out.call hX) HN1.out (by have := HB300.out; omega)
  have r1 := rn w1 B1.out
  have r1d := rn w1.drew BD.out
  clear rn i0 i1 i3 n1 n2
  go_cut [7, 8] (fun s7 s8 wx => ∃ a r, s7 = .pointer (some ⟨a, 0, none⟩) ∧ s8 = .pointer (some ⟨r, 0, none⟩) ∧ Hid (Below x0.heap.size x0 wx))
  case first =>
    go_region_held3 (fun w' => w'.cell? ⟨W.heap.size, 2, none⟩ = some (.slice sb lb.length mb))
      (first | (with_reducible exact i2) | (with_reducible exact j2) | (with_reducible exact k2) | (with_reducible exact k3) | fail)
      (first | (go_at_call 14; first | ((with_reducible refine r1.mono ?_); rintro e x1 ⟨a, rfl, _, hb⟩; have C1 := Lib.hid (below_call B1.out hb); have k2 := (BC.out x1 C1.out).2.2.1; have s1 := sn x1 C1.out) | ((with_reducible refine r1d.mono ?_); rintro e x1 ⟨a, rfl, _, hb⟩; have C1 := Lib.hid (below_call BD.out hb); have k2 := (BC.out x1 C1.out).2.2.1; have s1 := sn x1 C1.out)) | (go_at_call 15; (with_reducible refine s1.mono ?_); rintro e x2 ⟨r, rfl, _, hb2⟩; have C2 := Lib.hid (below_call C1.out hb2); have k3 := (BC.out x2 C2.out).2.2.1) | fail)
    all_goals
      go_wp2_with fail
      go_meet
      exact ⟨a, r, rfl, rfl, C2.out⟩
  case rest =>
  obtain ⟨a, r, rfl, rfl, hC⟩ := hcut
  have S0 := Lib.hid (below_call B0.out hC.out)
  have c3 := (BC.out wc hC.out).2.2.2
  clear hC r1 r1d sn i2 j2
  go_wp2_with fail
  go_loopw [62] (fun i wr => ∃ k : Nat, k ≤ l.length ∧ i = .int .i64 (k : Int) ∧ Hid (Below W.heap.size W wr)) (fun i _ => l.length - (intOf i).toNat)
  case atStart => exact ⟨0, Nat.zero_le _, rfl, S0.out⟩
  case round =>
    obtain ⟨k, hk, rfl, hT⟩ := hrel
    have hl100 := HL.out
    by_cases hlt : k < l.length
    · obtain ⟨g0, off, hs, oo⟩ := (HO1.out.call hT.out).at hlt
      subst hs
      obtain ⟨o0, o1, o2, o3⟩ := oo
      generalize l[k] = o at *
      obtain ⟨ok, ox, oy, ov⟩ := o
      dsimp only at *
      have hA := below_alloc (Below.refl _ wr) (.cells #[.int .i64 ok, .int .i64 ox, .int .i64 oy, .int .i64 ov] 56)
      have XA := Lib.hid (below_call hT.out hA)
      have QA := Lib.hid (Bo.new wr ⟨ok, ox, oy, ov⟩)
      clear hA hT c3
      by_cases hk0 : ok = 0
      · subst hk0
        have c2 := usetN ox oy ov
        have c1 := fun X => nsetT (noT_nil X) ox oy ov
        go_upto_region 13 with fail
        clear o0 o1 o2 o3
        generalize wr.heap.size = q at *
        generalize wr.alloc (.cells #[.int .i64 0, .int .i64 ox, .int .i64 oy, .int .i64 ov] 56) = w6 at *
        have QD := Lib.hid (QA.out.below (Below.refl _ w6).drew)
        have XD := Lib.hid (below_call XA.out (Below.refl _ w6).drew)
        have K0 := box3 QA.out.cells
        have KD := box3 QD.out.cells
        dsimp only at K0 KD
        go_cut [86] (fun s86 wx => s86 = .bool false ∧ Hid (Below W.heap.size W wx))
        case first =>
          go_region_held3 (fun w' => w'.cell? ⟨q, 1, none⟩ = some (.int .i64 ox) ∧ w'.cell? ⟨q, 2, none⟩ = some (.int .i64 oy) ∧ w'.cell? ⟨q, 3, none⟩ = some (.int .i64 ov))
            (first | (with_reducible exact K0) | (with_reducible exact KD) | fail)
            (first | (go_at_call 33; (with_reducible refine (c1 _).mono ?_); rintro e wn ⟨rfl, rfl⟩) | (go_at_call 34; (with_reducible refine (c2 _).mono ?_); rintro e wn ⟨rfl, rfl⟩) | fail)
          all_goals
            go_wp2_with fail
            go_meet
            exact ⟨rfl, by first | exact XD.out | exact XA.out⟩
        case rest =>
          obtain ⟨rfl, T6⟩ := hcut
          clear c1 c2 K0 KD
          go_wp2_with fail
          go_roundw
          case rel => exact ⟨k + 1, by omega, by go_num, T6.out⟩
          case measure => simp [intOf]; omega
      have g0' : (ok == 0) = false := by simpa using hk0
      by_cases hk2 : ok = 2
      · subst hk2
        have c1 := fun X => nvalT (noT_nil X) ox oy
        have c2 := uvalueN ox oy
        obtain ⟨q0, q1, q2, q3⟩ := QA.out.cells
        dsimp only at q0 q1 q2 q3
        go_wp2_with (first | (go_at_call 37; (with_reducible refine (c1 _).mono ?_); rintro e wn ⟨rfl, rfl⟩))
        refine (c2 _).mono ?_
        rintro e w8 ⟨rfl, hb⟩
        have S8 := Lib.hid (below_call XA.out hb)
        clear c1 c2 hb q0 q1 q2 q3 o0 o1 o2 o3
        go_wp2_with fail
        go_roundw
        case rel => exact ⟨k + 1, by omega, by go_num, S8.out⟩
        case measure => simp [intOf]; omega
      have g2' : (ok == 2) = false := by simpa using hk2
      by_cases hk3 : ok = 3
      · subst hk3
        have c1 := fun X => ndecT (noT_nil X) (some ⟨a, 0, none⟩) ox oy ov
        have c2 := udecN (some ⟨r, 0, none⟩) ox oy ov
        obtain ⟨q0, q1, q2, q3⟩ := QA.out.cells
        dsimp only at q0 q1 q2 q3
        go_wp2_with fail
        refine (c1 _).mono ?_
        rintro e w7 ⟨rfl, hb⟩
        have S7 := Lib.hid (below_call XA.out hb)
        obtain ⟨q0, q1, q2, q3⟩ := (QA.out.below hb).cells
        dsimp only at q0 q1 q2 q3
        clear c1 hb o0 o1 o2 o3
        go_wp2_with (first | (go_at_call 40; (with_reducible refine (c2 _).mono ?_); rintro e wn ⟨rfl, rfl⟩))
        clear q0 q1 q2 q3
        go_roundw
        case rel => exact ⟨k + 1, by omega, by go_num, S7.out⟩
        case measure => simp [intOf]; omega
      have g3' : (ok == 3) = false := by simpa using hk3
      clear hk0 hk2 hk3
      go_wp2_with fail
      go_roundw
      case rel => exact ⟨k + 1, by omega, by go_num, XA.out⟩
      case measure => simp [intOf]; omega
    · obtain rfl : k = l.length := by omega
      have B7 := Lib.hid hT.out
      clear hT
      go_wp2_with fail
      refine (ex10_c _).mono ?_
      rintro e wz ⟨rfl, hb⟩
      have BZ := Lib.hid (below_call B7.out hb)
      clear hb
      go_wp2_with fail
      go_ret
      exact ⟨rfl, BZ.out⟩
theorem walk (w h : Int) (l : List OpT) (s : Option Addr) (m : Nat) (lb : List Int) (sb : Option Addr) (mb : Nat) (W : World) (HO : HoldsT W s l) (HB : HoldsB W sb lb) (HY : Bi.bytes lb) (HN : sb = none → lb = [] ∧ mb = 0) : Calls Try.prog 6 #[.agg #[.int .i64 w, .int .i64 h, .slice sb lb.length mb, .slice s l.length m]] W fun e w' => e = .returned (.bool true) ∧ Below W.heap.size W w' := by
  by_cases hok : okN w h
  · obtain ⟨a, rfl⟩ : ∃ n : Nat, w = n := ⟨w.toNat, by unfold okN at hok; omega⟩
    obtain ⟨b, rfl⟩ : ∃ n : Nat, h = n := ⟨h.toNat, by unfold okN at hok; omega⟩
    exact yes a b hok l s m lb sb mb W HO HB HY HN
  · exact no w h hok l s m lb sb mb W HO HB HY HN

set_option maxRecDepth 100000 in
theorem lifted (os : Os) (started : os.Started) (H : Type) (enc : TypeId × Value → H) :
    ReturnsInHanded {} Try.checked os 6 .any (Rows.tagtreeReadsSpec.pre6 enc Try.prog Try.f6 Rows.tagtreeReadsRow.domain false) (Rows.tagtreeReadsSpec.post enc Try.prog Try.f6 false true false false) := by
  refine returnsInHanded_of_change (C := Try.checked) own started (by kernel_rfl) Try.func6
    (ChangeSpec.witness6 (enc := enc) (C := Try.checked) false ⟨#[], #[.agg #[.int .i64 0, .int .i64 0, .slice none 0 0, .slice none 0 0]], []⟩ 8 (by kernel_rfl) (by kernel_rfl) (by kernel_rfl) (by kernel_rfl)) ?_
  intro W base args ds gs before hval0 hW _ _
  have hval : ∀ (j : Nat) t v, Try.f6.params[j]? = some t → args[j]? = some v → Value.okWide Try.prog W .any base t v := hval0
  have hW' := hW
  obtain ⟨p, q, hA0, hV, rfl, _, _⟩ := hW
  have hA : DataW.TrodAll enc Try.prog W 0 (fun _ => true) true Try.f6.params.toList args.toList ds p := hA0
  rw [Try.params6] at hA hval
  obtain ⟨v0, vs0, d0, ds0, p0, q0, hargs, rfl, rfl, h0, r0⟩ := trodAll_cons hA
  obtain ⟨rfl, rfl, rfl⟩ := trodAll_nil r0
  obtain rfl : args = #[v0] := by cases args; simp_all
  obtain ⟨rfl, rfl⟩ := trodVars_none hV
  clear hA0 hval0
  simp only [List.append_nil] at hW'
  have l0 : ∀ x ∈ p0, x.block < W.heap.size := fun x hx => hW'.lt x (by simp [hx])
  obtain ⟨iw0, ih0, sb0, lb0, mb0, so0, lo0, mo0, rfl, hB0, hY0, hn0, hO0⟩ := open_input (hval 0 63 v0 rfl rfl) h0
  refine (walk iw0 ih0 lo0 so0 mo0 lb0 sb0 mb0 W hO0 hB0 hY0 hn0).mono fun e W' ⟨he, hb⟩ => ?_
  subst he
  exact ⟨_, rfl, post_low (pa := p0 ++ ([])) (pv := []) hW' (fun _ _ _ => (trodAll_cons_mk (shut_bool Try.underlying4 _) trodAll_mk0)) (fun sp hsp => (trodAll_cons_mk (trod_low laidOut (by kernel_rfl) (of_decide_eq_true (by kernel_rfl)) h0 hb l0 (fun x hx => hsp x (by simp [hx]))) trodAll_mk0)) (fun _ _ => rfl) (by simp) hb (ok_one (by kernel_rfl) rfl (okWide_bool_mk Try.underlying4 _))⟩

theorem over : Rows.tagtreeReadsRow.holds Try.pinned (OpenSpec.ofChange Rows.tagtreeReadsSpec) :=
  OpenClaim.holds_of_wide 6 Try.f6 rfl rfl rfl rfl rfl rfl rfl ⟨rfl, rfl, rfl, rfl, rfl⟩ rfl rfl rfl rfl rfl (by kernel_rfl) Try.func6 (by kernel_rfl)
    (of_decide_eq_true (by kernel_rfl)) (by unfold Func.isWrapper; first | (rw [if_pos (by decide +kernel)]; kernel_rfl) | (rw [if_neg (by decide +kernel)]; exact ⟨rfl, rfl⟩))
    (fun os started H enc _ => lifted os started H enc)

theorem proved : Rows.TagtreeReadsSaid :=
  over
#print axioms proved
end Go.Proofs.Ytaddendclipkkaa.tagtreeReads
