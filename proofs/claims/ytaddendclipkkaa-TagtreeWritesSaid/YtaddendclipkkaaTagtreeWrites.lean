/-
  For all sizes and lists of calls the statement TagtreeWrites returns true; they read afterwards as before.
  Conditions: none beyond those of the given statement.
-/
import Derived.Test.YtaddendclipkkaaUl
import Derived.Test.YtaddendclipkkaaUa
import Derived.Test.YtaddendclipkkaaTn
set_option maxRecDepth 100000
namespace Go.Proofs.Ytaddendclipkkaa.tagtreeWrites
open Go.ChangeShapes Go.WideShapes Go.ChangeAt Go.RowKit Go.Joins Go.Deep

theorem box3 {W : World} {q : Nat} {a0 a1 a2 a3 : Int} (h : W.cell? ⟨q, 0, none⟩ = some (.int .i64 a0) ∧ W.cell? ⟨q, 1, none⟩ = some (.int .i64 a1) ∧ W.cell? ⟨q, 2, none⟩ = some (.int .i64 a2) ∧ W.cell? ⟨q, 3, none⟩ = some (.int .i64 a3)) : W.cell? ⟨q, 1, none⟩ = some (.int .i64 a1) ∧ W.cell? ⟨q, 2, none⟩ = some (.int .i64 a2) ∧ W.cell? ⟨q, 3, none⟩ = some (.int .i64 a3) := h.2
set_option maxHeartbeats 8000000 in
theorem yes (wd ht : Nat) (hok : okN (wd : Int) (ht : Int)) (l : List OpT) (s : Option Addr) (m : Nat) (W : World) (HO : HoldsT W s l) :
    Calls Try.prog 5 #[.int .i64 (wd : Int), .int .i64 (ht : Int), .slice s l.length m] W fun e w' => e = .returned (.bool true) ∧ Below W.heap.size W w' := by
  have n1 := fun X => tnew_yes wd ht hok X
  have n2 := fun X => unew_yes wd ht hok X
  have sm := small_c (wd : Int) (ht : Int) l s m W HO
  have HO1 := Lib.hid HO
  have OK := Lib.hid hok
  clear hok HO
  go_enter Try.func5, Try.ntmps5
  go_wp2_with fail
  refine sm.mono ?_
  rintro e w1 ⟨z, rfl, hz, hb⟩
  have B1 := Lib.hid hb
  clear hb sm
  cases z with
  | false =>
    clear hz n1 n2
    go_wp2_with fail
    refine (ex10_c _).mono ?_
    rintro e wz ⟨rfl, hb⟩
    have BZ := Lib.hid (below_call B1.out hb)
    clear hb
    go_wp2_with fail
    go_ret
    exact ⟨rfl, BZ.out⟩
  | true =>
  have HL := Lib.hid (hz rfl).2.2
  clear hz
  go_wp2_with fail
  refine (n1 _).mono ?_
  rintro e w2 ⟨rfl, hT, hb⟩
  obtain ⟨D, hD⟩ : ∃ D, D = dep wd ht := ⟨_, rfl⟩
  rw [← hD] at hT
  have T2 := Lib.hid (And.intro (hT.lower B1.out.size) (below_call B1.out hb))
  have HDD := Lib.hid hD
  clear hT hb n1 hD
  generalize w1.heap.size + 1 = A at *
  generalize (fun i => w1.heap.size + 2 + i) = nd at *
  obtain ⟨L, hLL⟩ : ∃ L, L = w1.heap.size := ⟨_, rfl⟩
  rw [← hLL] at T2
  clear hLL
  go_wp2_with fail
  refine (n2 _).mono ?_
  rintro e w3 hU
  have hur := ur_new OK.out hU
  rw [← HDD.out] at hur
  obtain ⟨rfl, hb, _, _⟩ := hU
  have T3 := Lib.hid (And.intro (T2.out.1.below hb) (And.intro (hur.lower T2.out.2.size) (below_call T2.out.2 hb)))
  generalize w2.heap.size + 1 = b at *
  generalize w2.heap.size = g at *
  clear hur hb n2 T2
  go_wp2_with fail
  refine (new_c _).mono ?_
  rintro e w4 ⟨aw, rfl, hW, hb⟩
  have T4 := Lib.hid (And.intro (T3.out.1.below hb) (And.intro (T3.out.2.1.below hb) (And.intro (hW.low T3.out.2.2.size) (below_call T3.out.2.2 hb))))
  clear hW hb T3
  go_wp2_with fail
  refine (vnew_c _).mono ?_
  rintro e w5 ⟨v, rfl, hV, hb⟩
  have T5 : Hid (Wt W A L nd b g aw v wd ht D 0 (mkQ wd ht xf0 xl0 xb0) 0 (fun _ _ _ => ⟨0, 0, false⟩) [] [] [] w5) := Lib.hid ⟨T4.out.1.below hb, T4.out.2.1.below hb, T4.out.2.2.1.below hb, vlow hV T4.out.2.2.2.size, Bi.bits_nil, below_call T4.out.2.2.2 hb, fun p hp => by simp at hp⟩
  clear hV hb T4
  go_wp2_with fail
  go_loopw [44] (fun i wr => ∃ (k : Nat) (u : Int) (Qc Qr : Nat → Nat → Nat → Nd) (bs : List Int), k ≤ l.length ∧ i = .int .i64 (k : Int) ∧ Hid (Wt W A L nd b g aw v wd ht D u Qc u Qr bs bs [] wr ∧ Rl wd ht u Qc Qr ∧ bs.length ≤ k * 1200000)) (fun i _ => l.length - (intOf i).toNat)
  case atStart => exact ⟨0, 0, _, _, [], Nat.zero_le _, rfl, T5.out, Rl.new wd ht, by simp⟩
  case round =>
    obtain ⟨k, u, Qc, Qr, bs, hk, rfl, hT⟩ := hrel
    have hl100 := HL.out
    by_cases hlt : k < l.length
    · obtain ⟨g0, off, hs, oo⟩ := (HO1.out.call hT.out.1.below).at hlt
      subst hs
      obtain ⟨o0, o1, o2, o3⟩ := oo
      generalize l[k] = o at *
      obtain ⟨ok, ox, oy, ov⟩ := o
      dsimp only at *
      have hA := below_alloc (Below.refl _ wr) (.cells #[.int .i64 ok, .int .i64 ox, .int .i64 oy, .int .i64 ov] 56)
      have SA := Lib.hid ((hT.out.1.step hA).box (Bo.new wr ⟨ok, ox, oy, ov⟩))
      have RL := Lib.hid hT.out.2.1
      have LN := Lib.hid hT.out.2.2
      have hbl : bs.length + 1200000 + 32 ≤ 1000000000 := by have := hT.out.2.2; omega
      have hus := Lib.hid hT.out.1.t.us
      clear hA hT
      by_cases hk0 : ok = 0
      · subst hk0
        have c1f := fun (X : World) (h : Tr X W.heap.size A L nd wd ht D u Qc) => setJ h RL.out.jv ox oy ov
        have RN := Lib.hid (RL.out.set ox oy ov)
        have c2 := fun (X : World) (h : Ur X W.heap.size b g wd ht D u Qr) => uset_c h ox oy ov
        have hee : (stE u wd ht ox oy ov != stE u wd ht ox oy ov) = false := by simp
        generalize stE u wd ht ox oy ov = ee at *
        generalize seQ u wd ht Qc ox oy ov = Qc1 at *
        generalize usQ wd ht u Qr ox oy ov = Qr1 at *
        go_upto_region 13 with fail
        clear o0 o1 o2 o3
        generalize wr.heap.size = q at *
        generalize wr.alloc (.cells #[.int .i64 0, .int .i64 ox, .int .i64 oy, .int .i64 ov] 56) = w6 at *
        have SD := Lib.hid (SA.out.step (Below.refl _ w6).drew)
        have K0 := box3 SA.out.cells
        have KD := box3 SD.out.cells
        have c1 := c1f _ SA.out.t
        have c1d := c1f _ SD.out.t
        clear c1f
        dsimp only at K0 KD
        go_cut [68] (fun s68 wx => s68 = .bool false ∧ Hid (Wt W A L nd b g aw v wd ht D u Qc1 u Qr1 bs bs [] wx))
        case first =>
          go_region_held3 (fun w' => w'.cell? ⟨q, 1, none⟩ = some (.int .i64 ox) ∧ w'.cell? ⟨q, 2, none⟩ = some (.int .i64 oy) ∧ w'.cell? ⟨q, 3, none⟩ = some (.int .i64 ov))
            (first | (with_reducible exact K0) | (with_reducible exact KD) | (with_reducible exact K1) | (with_reducible exact K2) | fail)
            (first | (go_at_call 33; first | ((with_reducible refine c1.mono ?_); rintro e x1 ⟨rfl, hT1, hF1⟩; have S1 := Lib.hid (SA.out.codeS hT1 hF1); have K1 := box3 S1.out.cells) | ((with_reducible refine c1d.mono ?_); rintro e x1 ⟨rfl, hT1, hF1⟩; have S1 := Lib.hid (SD.out.codeS hT1 hF1); have K1 := box3 S1.out.cells)) | (go_at_call 34; (with_reducible refine (c2 _ S1.out.r).mono ?_); rintro e x2 ⟨rfl, hT2, hF2⟩; have S2 := Lib.hid (S1.out.refS hT2 hF2); have K2 := box3 S2.out.cells) | fail)
          all_goals
            go_wp2_with fail
            go_meet
            exact ⟨rfl, S2.out.drop⟩
        case rest =>
          obtain ⟨rfl, T6⟩ := hcut
          clear c1 c2 c1d K0 KD
          go_wp2_with fail
          go_roundw
          case rel => exact ⟨k + 1, u, Qc1, Qr1, bs, by omega, by go_num, T6.out, RN.out, Nat.le_trans LN.out (Nat.mul_le_mul_right _ (Nat.le_succ k))⟩
          case measure => simp [intOf]; omega
      have g0' : (ok == 0) = false := by simpa using hk0
      by_cases hk1 : ok = 1
      · subst hk1
        have c1f := fun (X : World) (h : Tr X W.heap.size A L nd wd ht D u Qc) (hW : Wr X W.heap.size aw bs) => encode_c h hW SA.out.bits hbl ox oy ov
        have RN := Lib.hid (RL.out.enc (D := D) hus.out bs ox oy ov)
        have c2 := fun (X : World) (h : Ur X W.heap.size b g wd ht D u Qr) (hV : Vr X W.heap.size v bs) => uenc_c h hV hbl ox oy ov
        rw [RN.out.1] at c2
        have hee : (enE wd ht u ox oy ov != enE wd ht u ox oy ov) = false := by simp
        generalize enE wd ht u ox oy ov = ee at *
        generalize enS Qc wd ht D u bs ox oy ov = bs1 at *
        generalize enU wd ht u ox oy ov = u1 at *
        generalize enQ Qc wd ht D u bs ox oy ov = Qc1 at *
        generalize ueQ wd ht D u Qr bs ox oy ov = Qr1 at *
        go_upto_region 16 with fail
        clear o0 o1 o2 o3
        generalize wr.heap.size = q at *
        generalize wr.alloc (.cells #[.int .i64 1, .int .i64 ox, .int .i64 oy, .int .i64 ov] 56) = w6 at *
        have SD := Lib.hid (SA.out.step (Below.refl _ w6).drew)
        have K0 := box3 SA.out.cells
        have KD := box3 SD.out.cells
        have c1 := c1f _ SA.out.t SA.out.wr
        have c1d := c1f _ SD.out.t SD.out.wr
        clear c1f
        dsimp only at K0 KD
        go_cut [96] (fun s96 wx => s96 = .bool false ∧ Hid (Wt W A L nd b g aw v wd ht D u1 Qc1 u1 Qr1 bs1 bs1 [] wx ∧ bs1.length ≤ bs.length + 1200000))
        case first =>
          go_region_held3 (fun w' => w'.cell? ⟨q, 1, none⟩ = some (.int .i64 ox) ∧ w'.cell? ⟨q, 2, none⟩ = some (.int .i64 oy) ∧ w'.cell? ⟨q, 3, none⟩ = some (.int .i64 ov))
            (first | (with_reducible exact K0) | (with_reducible exact KD) | (with_reducible exact K1) | (with_reducible exact K2) | fail)
            (first | (go_at_call 35; first | ((with_reducible refine c1.mono ?_); rintro e x1 ⟨rfl, hE1⟩; have LE := Lib.hid hE1.len; have S1 := Lib.hid (SA.out.codeE hE1); have K1 := box3 S1.out.cells) | ((with_reducible refine c1d.mono ?_); rintro e x1 ⟨rfl, hE1⟩; have LE := Lib.hid hE1.len; have S1 := Lib.hid (SD.out.codeE hE1); have K1 := box3 S1.out.cells)) | (go_at_call 36; (with_reducible refine (c2 _ S1.out.r S1.out.vr).mono ?_); rintro e x2 ⟨rfl, hE2⟩; have S2 := Lib.hid (S1.out.refE hE2); have K2 := box3 S2.out.cells) | (go_at_call 25; (with_reducible refine (len_c _ _ aw _ S2.out.wr).mono ?_); rintro e wn ⟨rfl, rfl⟩) | (go_at_call 26; (with_reducible refine (vlen_c _ _ v _ S2.out.vr).mono ?_); rintro e wn ⟨rfl, rfl⟩) | fail)
          all_goals
            go_wp2_with fail
            go_meet
            exact ⟨rfl, S2.out.drop, LE.out⟩
        case rest =>
          obtain ⟨rfl, T6⟩ := hcut
          clear c1 c2 c1d K0 KD
          go_wp2_with fail
          go_roundw
          case rel => exact ⟨k + 1, u1, Qc1, Qr1, bs1, by omega, by go_num, T6.out.1, RN.out.2, by rw [Nat.succ_mul]; exact Nat.le_trans T6.out.2 (Nat.add_le_add_right LN.out _)⟩
          case measure => simp [intOf]; omega
      have g1' : (ok == 1) = false := by simpa using hk1
      by_cases hk2 : ok = 2
      · subst hk2
        have c1 := value_c SA.out.t ox oy
        have RV := RL.out.val hus.out ox oy
        have c2 := fun (X : World) (h : Ur X W.heap.size b g wd ht D u Qr) => uvalue_c h ox oy
        rw [RV.1, RV.2] at c2
        have q := SA.out.cells
        obtain ⟨q0, q1, q2, q3⟩ := q
        dsimp only at q0 q1 q2 q3
        have hv1 : (vlV wd ht Qc ox oy != vlV wd ht Qc ox oy) = false := by simp
        have hv2 : (vlB wd ht Qc ox oy != vlB wd ht Qc ox oy) = false := by simp
        generalize vlV wd ht Qc ox oy = vv at *
        generalize vlB wd ht Qc ox oy = vb at *
        clear RV
        go_wp2_with fail
        refine c1.mono ?_
        rintro e w7 ⟨rfl, hb⟩
        have S7 := Lib.hid (SA.out.step hb)
        have hx := c2 _ S7.out.r
        obtain ⟨q0, q1, q2, q3⟩ := S7.out.cells
        dsimp only at q0 q1 q2 q3
        clear c1 c2 hb o0 o1 o2 o3
        go_wp2_with fail
        refine hx.mono ?_
        rintro e w8 ⟨rfl, hb⟩
        have S8 := Lib.hid (S7.out.step hb)
        clear hx hb q0 q1 q2 q3
        go_wp2_with fail
        go_roundw
        case rel => exact ⟨k + 1, u, Qc, Qr, bs, by omega, by go_num, S8.out.drop, RL.out, Nat.le_trans LN.out (Nat.mul_le_mul_right _ (Nat.le_succ k))⟩
        case measure => simp [intOf]; omega
      have g2' : (ok == 2) = false := by simpa using hk2
      clear hk0 hk1 hk2
      go_wp2_with fail
      go_roundw
      case rel => exact ⟨k + 1, u, Qc, Qr, bs, by omega, by go_num, SA.out.drop, RL.out, Nat.le_trans LN.out (Nat.mul_le_mul_right _ (Nat.le_succ k))⟩
      case measure => simp [intOf]; omega
    · obtain rfl : k = l.length := by omega
      have T0 := Lib.hid hT.out.1
      have hbl : bs.length + 70000 ≤ 1000000000 := by have := hT.out.2.2; omega
      clear hT
      have by1 := bytes_c _ _ _ _ T0.out.wr hbl
      go_wp2_with fail
      refine by1.mono ?_
      rintro e w6 ⟨g6, p6, rfl, hr6, _, hb⟩
      have T6 := Lib.hid (T0.out.step hb)
      have HR := Lib.hid hr6.holds
      have by2 := vbytes_c _ _ _ _ T6.out.vr T6.out.bits hbl
      clear by1 hb hr6
      go_wp2_with fail
      refine by2.mono ?_
      rintro e w7 ⟨s7, m7, rfl, hh7, hb⟩
      have T7 := Lib.hid (T6.out.step hb)
      have sm := fun n m k hn => same_t w7 _ _ _ n m k hn (HR.out.call hb) hh7
      have B7 := Lib.hid T7.out.below
      clear by2 hb hh7
      go_wp2_with fail
      refine (sm _ _ _ rfl).mono ?_
      rintro e wn ⟨rfl, rfl⟩
      clear sm
      go_wp2_with fail
      refine (ex10_c _).mono ?_
      rintro e wz ⟨rfl, hb⟩
      have BZ := Lib.hid (below_call B7.out hb)
      clear hb
      go_wp2_with fail
      go_ret
      exact ⟨rfl, BZ.out⟩
set_option maxHeartbeats 8000000 in
theorem no (w h : Int) (hok : ¬ okN w h) (l : List OpT) (s : Option Addr) (m : Nat) (W : World) (HO : HoldsT W s l) : Calls Try.prog 5 #[.int .i64 w, .int .i64 h, .slice s l.length m] W fun e w' => e = .returned (.bool true) ∧ Below W.heap.size W w' := by
  have n1 := tnew_no w h hok
  have n2 := unew_no w h hok
  have sm := small_c w h l s m W HO
  have heq : (chE w h != chE w h) = false := by simp
  have HO1 := Lib.hid HO
  generalize chE w h = ce at *
  clear hok HO
  go_enter Try.func5, Try.ntmps5
  go_wp2_with fail
  refine sm.mono ?_
  rintro e w1 ⟨z, rfl, hz, hb⟩
  have B1 := Lib.hid hb
  clear hb sm
  cases z with
  | false =>
    clear hz n1 n2
    go_wp2_with fail
    refine (ex10_c _).mono ?_
    rintro e wz ⟨rfl, hb⟩
    have BZ := Lib.hid (below_call B1.out hb)
    clear hb
    go_wp2_with fail
    go_ret
    exact ⟨rfl, BZ.out⟩
  | true =>
  have HL := Lib.hid (hz rfl).2.2
  clear hz
  go_wp2_with (first | (go_at_call 27; (with_reducible refine (n1 _).mono ?_); rintro e wn ⟨rfl, rfl⟩) | (go_at_call 28; (with_reducible refine (n2 _).mono ?_); rintro e wn ⟨rfl, rfl⟩))
  refine (new_c _).mono ?_
  rintro e w4 ⟨aw, rfl, hW, hb⟩
  have T4 := Lib.hid (And.intro (hW.low B1.out.size) (below_call B1.out hb))
  clear hW hb n1 n2
  go_wp2_with fail
  refine (vnew_c _).mono ?_
  rintro e w5 ⟨v, rfl, hV, hb⟩
  have T5 : Hid (Nt W aw v [] w5) := Lib.hid ⟨T4.out.1.below hb, vlow hV T4.out.2.size, below_call T4.out.2 hb, fun p hp => by simp at hp⟩
  clear hV hb T4
  go_wp2_with fail
  go_loopw [44] (fun i wr => ∃ k : Nat, k ≤ l.length ∧ i = .int .i64 (k : Int) ∧ Hid (Nt W aw v [] wr)) (fun i _ => l.length - (intOf i).toNat)
  case atStart => exact ⟨0, Nat.zero_le _, rfl, T5.out⟩
  case round =>
    obtain ⟨k, hk, rfl, hT⟩ := hrel
    have hl100 := HL.out
    by_cases hlt : k < l.length
    · obtain ⟨g0, off, hs, oo⟩ := (HO1.out.call hT.out.below).at hlt
      subst hs
      obtain ⟨o0, o1, o2, o3⟩ := oo
      generalize l[k] = o at *
      obtain ⟨ok, ox, oy, ov⟩ := o
      dsimp only at *
      have hA := below_alloc (Below.refl _ wr) (.cells #[.int .i64 ok, .int .i64 ox, .int .i64 oy, .int .i64 ov] 56)
      have SA := Lib.hid ((hT.out.step hA).box (Bo.new wr ⟨ok, ox, oy, ov⟩))
      clear hA hT
      by_cases hk0 : ok = 0
      · subst hk0
        have c2 := usetN ox oy ov
        have c1 := fun X => nsetT (noT_nil X) ox oy ov
        go_upto_region 13 with fail
        clear o0 o1 o2 o3
        generalize wr.heap.size = q at *
        generalize wr.alloc (.cells #[.int .i64 0, .int .i64 ox, .int .i64 oy, .int .i64 ov] 56) = w6 at *
        have SD := Lib.hid (SA.out.step (Below.refl _ w6).drew)
        have K0 := box3 SA.out.cells
        have KD := box3 SD.out.cells
        dsimp only at K0 KD
        go_cut [68] (fun s68 wx => s68 = .bool false ∧ Hid (Nt W aw v [] wx))
        case first =>
          go_region_held3 (fun w' => w'.cell? ⟨q, 1, none⟩ = some (.int .i64 ox) ∧ w'.cell? ⟨q, 2, none⟩ = some (.int .i64 oy) ∧ w'.cell? ⟨q, 3, none⟩ = some (.int .i64 ov))
            (first | (with_reducible exact K0) | (with_reducible exact KD) | fail)
            (first | (go_at_call 33; (with_reducible refine (c1 _).mono ?_); rintro e wn ⟨rfl, rfl⟩) | (go_at_call 34; (with_reducible refine (c2 _).mono ?_); rintro e wn ⟨rfl, rfl⟩) | fail)
          all_goals
            go_wp2_with fail
            go_meet
            exact ⟨rfl, by first | exact SD.out.drop | exact SA.out.drop⟩
        case rest =>
          obtain ⟨rfl, T6⟩ := hcut
          clear c1 c2 K0 KD
          go_wp2_with fail
          go_roundw
          case rel => exact ⟨k + 1, by omega, by go_num, T6.out⟩
          case measure => simp [intOf]; omega
      have g0' : (ok == 0) = false := by simpa using hk0
      by_cases hk1 : ok = 1
      · subst hk1
        have c1 := fun X => nencT (noT_nil X) (some ⟨aw, 0, none⟩) ox oy ov
        have c2 := uencN (some ⟨v, 0, none⟩) ox oy ov
        go_upto_region 16 with fail
        clear o0 o1 o2 o3
        generalize wr.heap.size = q at *
        generalize wr.alloc (.cells #[.int .i64 1, .int .i64 ox, .int .i64 oy, .int .i64 ov] 56) = w6 at *
        have SD := Lib.hid (SA.out.step (Below.refl _ w6).drew)
        have K0 := box3 SA.out.cells
        have KD := box3 SD.out.cells
        have c1a := c1 w6
        have c1d := c1 w6.drew
        dsimp only at K0 KD
        clear c1
        go_cut [96] (fun s96 wx => s96 = .bool false ∧ Hid (Nt W aw v [] wx))
        case first =>
          go_region_held3 (fun w' => w'.cell? ⟨q, 1, none⟩ = some (.int .i64 ox) ∧ w'.cell? ⟨q, 2, none⟩ = some (.int .i64 oy) ∧ w'.cell? ⟨q, 3, none⟩ = some (.int .i64 ov))
            (first | (with_reducible exact K0) | (with_reducible exact KD) | (with_reducible exact K1) | fail)
            (first | (go_at_call 35; first | ((with_reducible refine c1a.mono ?_); rintro e x1 ⟨rfl, hb⟩; have S1 := Lib.hid (SA.out.step hb); have K1 := box3 S1.out.cells) | ((with_reducible refine c1d.mono ?_); rintro e x1 ⟨rfl, hb⟩; have S1 := Lib.hid (SD.out.step hb); have K1 := box3 S1.out.cells)) | (go_at_call 36; (with_reducible refine (c2 _).mono ?_); rintro e wn ⟨rfl, rfl⟩) | (go_at_call 25; (with_reducible refine (len_c _ _ aw _ S1.out.wr).mono ?_); rintro e wn ⟨rfl, rfl⟩) | (go_at_call 26; (with_reducible refine (vlen_c _ _ v _ S1.out.vr).mono ?_); rintro e wn ⟨rfl, rfl⟩) | fail)
          all_goals
            go_wp2_with fail
            go_meet
            exact ⟨rfl, S1.out.drop⟩
        case rest =>
          obtain ⟨rfl, T6⟩ := hcut
          clear c1a c1d c2 K0 KD
          go_wp2_with fail
          go_roundw
          case rel => exact ⟨k + 1, by omega, by go_num, T6.out⟩
          case measure => simp [intOf]; omega
      have g1' : (ok == 1) = false := by simpa using hk1
      by_cases hk2 : ok = 2
      · subst hk2
        have c1 := fun X => nvalT (noT_nil X) ox oy
        have c2 := uvalueN ox oy
        obtain ⟨q0, q1, q2, q3⟩ := SA.out.cells
        dsimp only at q0 q1 q2 q3
        go_wp2_with (first | (go_at_call 37; (with_reducible refine (c1 _).mono ?_); rintro e wn ⟨rfl, rfl⟩))
        refine (c2 _).mono ?_
        rintro e w8 ⟨rfl, hb⟩
        have S8 := Lib.hid (SA.out.step hb)
        clear c1 c2 hb q0 q1 q2 q3 o0 o1 o2 o3
        go_wp2_with fail
        go_roundw
        case rel => exact ⟨k + 1, by omega, by go_num, S8.out.drop⟩
        case measure => simp [intOf]; omega
      have g2' : (ok == 2) = false := by simpa using hk2
      clear hk0 hk1 hk2
      go_wp2_with fail
      go_roundw
      case rel => exact ⟨k + 1, by omega, by go_num, SA.out.drop⟩
      case measure => simp [intOf]; omega
    · obtain rfl : k = l.length := by omega
      have T0 := Lib.hid hT.out
      clear hT
      have by1 := bytes_c _ _ _ _ T0.out.wr (by simp)
      go_wp2_with fail
      refine by1.mono ?_
      rintro e w6 ⟨g6, p6, rfl, hr6, _, hb⟩
      have T6 := Lib.hid (T0.out.step hb)
      have HR := Lib.hid hr6.holds
      have by2 := vbytes_c _ _ _ _ T6.out.vr Bi.bits_nil (by simp)
      clear by1 hb hr6
      go_wp2_with fail
      refine by2.mono ?_
      rintro e w7 ⟨s7, m7, rfl, hh7, hb⟩
      have T7 := Lib.hid (T6.out.step hb)
      have sm := fun n m k hn => same_t w7 _ _ _ n m k hn (HR.out.call hb) hh7
      have B7 := Lib.hid T7.out.below
      clear by2 hb hh7
      go_wp2_with fail
      refine (sm _ _ _ rfl).mono ?_
      rintro e wn ⟨rfl, rfl⟩
      clear sm
      go_wp2_with fail
      refine (ex10_c _).mono ?_
      rintro e wz ⟨rfl, hb⟩
      have BZ := Lib.hid (below_call B7.out hb)
      clear hb
      go_wp2_with fail
      go_ret
      exact ⟨rfl, BZ.out⟩
theorem walk (w h : Int) (l : List OpT) (s : Option Addr) (m : Nat) (W : World) (HO : HoldsT W s l) : Calls Try.prog 5 #[.int .i64 w, .int .i64 h, .slice s l.length m] W fun e w' => e = .returned (.bool true) ∧ Below W.heap.size W w' := by
  by_cases hok : okN w h
  · obtain ⟨a, rfl⟩ : ∃ n : Nat, w = n := ⟨w.toNat, by unfold okN at hok; omega⟩
    obtain ⟨b, rfl⟩ : ∃ n : Nat, h = n := ⟨h.toNat, by unfold okN at hok; omega⟩
    exact yes a b hok l s m W HO
  · exact no w h hok l s m W HO

set_option maxRecDepth 100000 in
theorem lifted (os : Os) (started : os.Started) (H : Type) (enc : TypeId × Value → H) :
    ReturnsInHanded {} Try.checked os 5 .any (Rows.tagtreeWritesSpec.pre6 enc Try.prog Try.f5 Rows.tagtreeWritesRow.domain false) (Rows.tagtreeWritesSpec.post enc Try.prog Try.f5 false true false false) := by
  refine returnsInHanded_of_change (C := Try.checked) own started (by kernel_rfl) Try.func5
    (ChangeSpec.witness6 (enc := enc) (C := Try.checked) false ⟨#[], #[.int .i64 0, .int .i64 0, .slice none 0 0], []⟩ 8 (by kernel_rfl) (by kernel_rfl) (by kernel_rfl) (by kernel_rfl)) ?_
  intro W base args ds gs before hval0 hW _ _
  have hval : ∀ (j : Nat) t v, Try.f5.params[j]? = some t → args[j]? = some v → Value.okWide Try.prog W .any base t v := hval0
  have hW' := hW
  obtain ⟨p, q, hA0, hV, rfl, _, _⟩ := hW
  have hA : DataW.TrodAll enc Try.prog W 0 (fun _ => true) true Try.f5.params.toList args.toList ds p := hA0
  rw [Try.params5] at hA hval
  obtain ⟨v0, vs0, d0, ds0, p0, q0, hargs, rfl, rfl, h0, r0⟩ := trodAll_cons hA
  obtain ⟨v1, vs1, d1, ds1, p1, q1, rfl, rfl, rfl, h1, r1⟩ := trodAll_cons r0
  obtain ⟨v2, vs2, d2, ds2, p2, q2, rfl, rfl, rfl, h2, r2⟩ := trodAll_cons r1
  obtain ⟨rfl, rfl, rfl⟩ := trodAll_nil r2
  obtain rfl : args = #[v0, v1, v2] := by cases args; simp_all
  obtain ⟨rfl, rfl⟩ := trodVars_none hV
  clear hA0 hval0
  simp only [List.append_nil] at hW'
  have l0 : ∀ x ∈ p0, x.block < W.heap.size := fun x hx => hW'.lt x (by simp [hx])
  have l1 : ∀ x ∈ p1, x.block < W.heap.size := fun x hx => hW'.lt x (by simp [hx])
  have l2 : ∀ x ∈ p2, x.block < W.heap.size := fun x hx => hW'.lt x (by simp [hx])
  obtain ⟨i0, rfl, _, _, wi0⟩ := open_int Try.underlying3 (hval 0 3 v0 rfl rfl) h0
  obtain ⟨i1, rfl, _, _, wi1⟩ := open_int Try.underlying3 (hval 1 3 v1 rfl rfl) h1
  obtain ⟨s2, o2, m2, rfl, hO2⟩ := open_ops (hval 2 53 v2 rfl rfl) h2
  refine (walk i0 i1 o2 s2 m2 W hO2).mono fun e W' ⟨he, hb⟩ => ?_
  subst he
  exact ⟨_, rfl, post_low (pa := p0 ++ (p1 ++ (p2 ++ ([])))) (pv := []) hW' (fun _ _ _ => (trodAll_cons_mk (shut_bool Try.underlying4 _) trodAll_mk0)) (fun sp hsp => (trodAll_cons_mk (trod_low laidOut (by kernel_rfl) (of_decide_eq_true (by kernel_rfl)) h0 hb l0 (fun x hx => hsp x (by simp [hx]))) (trodAll_cons_mk (trod_low laidOut (by kernel_rfl) (of_decide_eq_true (by kernel_rfl)) h1 hb l1 (fun x hx => hsp x (by simp [hx]))) (trodAll_cons_mk (trod_low laidOut (by kernel_rfl) (of_decide_eq_true (by kernel_rfl)) h2 hb l2 (fun x hx => hsp x (by simp [hx]))) trodAll_mk0)))) (fun _ _ => rfl) (by simp) hb (ok_one (by kernel_rfl) rfl (okWide_bool_mk Try.underlying4 _))⟩

theorem over : Rows.tagtreeWritesRow.holds Try.pinned (OpenSpec.ofChange Rows.tagtreeWritesSpec) :=
  OpenClaim.holds_of_wide 5 Try.f5 rfl rfl rfl rfl rfl rfl rfl ⟨rfl, rfl, rfl, rfl, rfl⟩ rfl rfl rfl rfl rfl (by kernel_rfl) Try.func5 (by kernel_rfl)
    (of_decide_eq_true (by kernel_rfl)) (by unfold Func.isWrapper; first | (rw [if_pos (by decide +kernel)]; kernel_rfl) | (rw [if_neg (by decide +kernel)]; exact ⟨rfl, rfl⟩))
    (fun os started H enc _ => lifted os started H enc)

theorem proved : Rows.TagtreeWritesSaid :=
  over
#print axioms proved
end Go.Proofs.Ytaddendclipkkaa.tagtreeWrites
