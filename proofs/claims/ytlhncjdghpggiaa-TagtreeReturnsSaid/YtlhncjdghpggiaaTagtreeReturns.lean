/-
  For all sizes and lists of calls the statement TagtreeReturns returns true; they read afterwards as before.
  Conditions: none beyond those of the given statement.
-/
import Derived.Test.YtlhncjdghpggiaaTl
import Derived.Test.YtlhncjdghpggiaaUa
set_option maxRecDepth 100000
namespace Go.Proofs.Ytlhncjdghpggiaa.tagtreeReturns
open Go.ChangeShapes Go.WideShapes Go.ChangeAt Go.RowKit Go.Joins Go.Deep

theorem hist_len {w h D : Nat} {f : Nat → Nat → Int} (hf : ∀ x y, 0 ≤ f x y ∧ f x y ≤ 65535) (hD : D ≤ 7) (G : List OpT) (hG : G.length ≤ 100) : (hist w h D (mkQ w h f xl0 xb0) G).1.length ≤ 45876600 := by
  have h1 := (hist_ok (jq_new (w := w) (h := h) (D := D) hf) (fun k x y => ⟨Int.le_refl _, by show (0 : Int) ≤ 65536; omega⟩) G).2.2
  have h2 : D * FU ≤ 7 * 65538 := Nat.mul_le_mul hD (Nat.le_refl _)
  have h3 : G.length * (D * FU) ≤ 100 * (7 * 65538) := Nat.mul_le_mul hG h2
  omega
theorem wrap_mulT (x y : Nat) (h : x * y ≤ 65536) : IntKind.i64.wrap ((x : Int) * (y : Int)) = ((x * y : Nat) : Int) := by
  rw [← Int.natCast_mul, IntWalk.i64_left]
  generalize x * y = p at *
  unfold wrap64
  omega
set_option maxHeartbeats 16000000 in
theorem yes (a b : Nat) (hok : okN (a : Int) (b : Int)) (l : List OpT) (s : Option Addr) (m : Nat) (W : World) (HO : HoldsT W s l) :
    Calls Try.prog 14 #[.int .i64 (a : Int), .int .i64 (b : Int), .slice s l.length m] W fun e w' => e = .returned (.bool true) ∧ Below W.heap.size W w' := by
  have n1 := fun X => tnew_yes a b hok X
  have sm := small_c (a : Int) (b : Int) l s m W HO
  have HO1 := Lib.hid HO
  have hab : 1 ≤ a ∧ 1 ≤ b := by unfold okN at hok; omega
  have HAB := Lib.hid hab
  clear hok HO hab
  go_enter Try.func14, Try.ntmps14
  go_wp2_with fail
  refine sm.mono ?_
  rintro e w1 ⟨z, rfl, hz, hb⟩
  have B1 := Lib.hid hb
  clear hb sm
  cases z with
  | false =>
    clear hz n1
    go_wp2_with fail
    refine (ex10_c _).mono ?_
    rintro e wz ⟨rfl, hb⟩
    have BZ := Lib.hid (below_call B1.out hb)
    clear hb
    go_wp2_with fail
    go_ret
    exact ⟨rfl, BZ.out⟩
  | true =>
  have HZ := Lib.hid (hz rfl)
  clear hz
  go_wp2_with fail
  refine (n1 _).mono ?_
  rintro e w2 ⟨rfl, hT, hb⟩
  obtain ⟨D, hD⟩ : ∃ D, D = dep a b := ⟨_, rfl⟩
  have HD : Hid (D ≤ 7) := Lib.hid (by rw [hD]; exact dep_small HAB.out.1 HAB.out.2 (by have := HZ.out; omega) (by have := HZ.out; omega))
  rw [← hD] at n1
  rw [← hD] at hT
  have B2 := Lib.hid (below_call B1.out hb)
  have T2 : Hid (Tr w2 W.heap.size (w1.heap.size + 1) w1.heap.size (fun i => w1.heap.size + 2 + i) a b D 0 (mkQ a b xf0 xl0 xb0)) := Lib.hid (hT.lower B1.out.size)
  clear hT hb hD
  generalize w1.heap.size + 1 = A at *
  generalize (fun i => w1.heap.size + 2 + i) = nd at *
  obtain ⟨L, hLL⟩ : ∃ L, L = w1.heap.size := ⟨_, rfl⟩
  rw [← hLL] at T2
  clear hLL
  go_wp2_with fail
  refine (n1 _).mono ?_
  rintro e w3 ⟨rfl, hT, hb⟩
  have DJ : Hid (∀ k, Tf A L nd D k → ¬ Tf (w2.heap.size + 1) w2.heap.size (fun i => w2.heap.size + 2 + i) D k) := Lib.hid (fun k h1 h2 => by
    have h3 := (T2.out.foot k h1).2
    have h4 := (hT.foot k h2).1
    omega)
  have T3 : Hid (Tr w3 W.heap.size A L nd a b D 0 (mkQ a b xf0 xl0 xb0)) := Lib.hid (T2.out.below hb)
  have B3 := Lib.hid (below_call B2.out hb)
  have U3 : Hid (Tr w3 W.heap.size (w2.heap.size + 1) w2.heap.size (fun i => w2.heap.size + 2 + i) a b D 0 (mkQ a b xf0 xl0 xb0)) := Lib.hid (hT.lower B2.out.size)
  clear hT hb n1 T2
  generalize w2.heap.size + 1 = A' at *
  generalize (fun i => w2.heap.size + 2 + i) = nd' at *
  obtain ⟨L', hLL⟩ : ∃ L', L' = w2.heap.size := ⟨_, rfl⟩
  rw [← hLL] at U3 DJ
  clear hLL
  have hsz := T3.out.sz
  have dw := wrap_mulT a b hsz
  have R3' : Hid (Rt W A L nd A' L' nd' a b D 0 (mkQ a b xf0 xl0 xb0) w3.heap.size xf0 (w3.alloc (.cells (madeCells #[.int .i64 0] (a * b)) 3))) := by
    have hA := below_alloc (Below.refl _ w3) (.cells (madeCells #[.int .i64 0] (a * b)) 3)
    exact ⟨T3.out.below hA, U3.out.below hA, DJ.out, vs_made w3 a b, B3.out.size, below_call B3.out hA⟩
  have mk := mk_ints (a * b) (by omega)
  obtain ⟨N, hN⟩ : ∃ N, N = a * b := ⟨_, rfl⟩
  rw [← hN] at dw R3' mk
  have HN := Lib.hid hN
  clear hN hsz T3 U3 DJ B1 B2
  go_wp2_with fail
  generalize w3.heap.size = gV at *
  generalize w3.alloc (.cells (madeCells #[.int .i64 0] N) 3) = w4 at *
  clear mk dw
  go_loopw [56] (fun i wr => ∃ (k : Nat) (f : Nat → Nat → Int), k ≤ l.length ∧ i = .int .i64 (k : Int) ∧ Hid (Rt W A L nd A' L' nd' a b D 0 (mkQ a b f xl0 xb0) gV f wr ∧ ∀ x y, 0 ≤ f x y ∧ f x y ≤ 65535)) (fun i _ => l.length - (intOf i).toNat)
  case atStart => exact ⟨0, xf0, Nat.zero_le _, rfl, R3'.out, fun x y => ⟨Int.le_refl _, by show (0 : Int) ≤ 65535; omega⟩⟩
  case round =>
    obtain ⟨k, f, hk, rfl, hT⟩ := hrel
    by_cases hlt : k < l.length
    · obtain ⟨g, off, hs, oo⟩ := (HO1.out.call hT.out.1.below).at hlt
      subst hs
      obtain ⟨o0, o1, o2, o3⟩ := oo
      generalize l[k] = o at *
      have BA := Lib.hid (Bo.new wr o)
      obtain ⟨ok, ox, oy, ov⟩ := o
      dsimp only at *
      have hl100 := HZ.out.2.2
      have TA := Lib.hid (hT.out.1.step (below_alloc (Below.refl _ wr) (.cells #[.int .i64 ok, .int .i64 ox, .int .i64 oy, .int .i64 ov] 66)))
      have HF := Lib.hid hT.out.2
      clear hT
      by_cases hk0 : ok = 0
      · subst hk0
        by_cases hc : okT a b ox oy ov 65535
        · obtain ⟨⟨i1, i2, i3, i4⟩, i5, i6⟩ := id hc
          obtain ⟨X, rfl⟩ : ∃ n : Nat, ox = n := ⟨ox.toNat, by omega⟩
          obtain ⟨Y, rfl⟩ : ∃ n : Nat, oy = n := ⟨oy.toNat, by omega⟩
          have st := set_c TA.out.t X Y ov
          rw [show stE 0 a b X Y ov = 0 by unfold stE; rw [if_neg (by simp), if_pos hc], show stF 0 a b f X Y ov = upF f X Y ov by unfold stF; rw [if_pos ⟨rfl, hc⟩]; rfl] at st
          have HXY : Hid (X < a ∧ Y < b ∧ 0 ≤ ov ∧ ov ≤ 65535) := Lib.hid (by omega)
          clear hc i1 i2 i3 i4 i5 i6
          go_wp2_with fail
          refine st.mono ?_
          rintro e w5 ⟨rfl, hT, hkf⟩
          have S5 := Lib.hid (TA.out.set hT hkf)
          have B5 := Lib.hid (BA.out.set TA.out.t hkf)
          obtain ⟨q0, q1, q2, q3⟩ := B5.out.cells
          dsimp only at q0 q1 q2 q3
          have ins := inside_c ⟨0, X, Y, ov⟩ a b (by simp only; omega) (by have := HXY.out; simp only; omega) (by simp only; omega) (by have := HXY.out; simp only; omega) w5
          dsimp only at ins
          clear hT hkf st o0 o1 o2 o3 TA BA
          go_wp2_with fail
          refine ins.mono ?_
          rintro e w6 ⟨rfl, hb⟩
          have S6 := Lib.hid (S5.out.step hb)
          have B6 := Lib.hid (B5.out.below hb)
          obtain ⟨p0, p1, p2, p3⟩ := B6.out.cells
          dsimp only at p0 p1 p2 p3
          have c4 := S6.out.vs.at HXY.out.1 HXY.out.2.1
          have f4 := S6.out.vs.free (Y * a + X)
          have hix : Y * a + X < N := by rw [HN.out]; exact grid_lt HXY.out.1 HXY.out.2.1
          have hN6 : N ≤ 65536 := by rw [HN.out]; exact S6.out.t.sz
          have m1 := wrap_mulT Y a (by omega)
          have m2 : IntKind.i64.wrap (((Y * a : Nat) : Int) + (X : Int)) = ((Y * a + X : Nat) : Int) := by rw [IntWalk.i64_left]; generalize Y * a = P at *; unfold wrap64; omega
          have F7 := Lib.hid (S6.out.put HXY.out.1 HXY.out.2.1 ov)
          have F8 : Hid (∀ x y, 0 ≤ upF f X Y ov x y ∧ upF f X Y ov x y ≤ 65535) := Lib.hid (fun x y => by
            unfold upF
            split
            · exact HXY.out.2.2
            · exact HF.out x y)
          have ixI : ((Y * a + X : Nat) : Int) < (N : Int) := by omega
          generalize Y * a + X = p at *
          generalize Y * a = pp at *
          generalize f X Y = fv at *
          clear ins hb q0 q1 q2 q3 S5 B5 B6
          go_wp2_with fail
          go_roundw
          case rel => exact ⟨k + 1, _, by omega, by go_num, F7.out, F8.out⟩
          case measure => simp [intOf]; omega
        · have st := set_c TA.out.t ox oy ov
          rw [show stE 0 a b ox oy ov = 2 by unfold stE; rw [if_neg (by simp), if_neg hc], show stF 0 a b f ox oy ov = f by unfold stF; rw [if_neg (fun c => hc c.2)]] at st
          clear hc
          go_wp2_with fail
          refine st.mono ?_
          rintro e w5 ⟨rfl, hT, hkf⟩
          have S5 := Lib.hid (TA.out.set hT hkf)
          clear hT hkf st o0 o1 o2 o3
          go_wp2_with fail
          go_roundw
          case rel => exact ⟨k + 1, _, by omega, by go_num, S5.out, HF.out⟩
          case measure => simp [intOf]; omega
      · have hk1 : (ok != 0) = true := by simpa using hk0
        clear hk0
        go_wp2_with fail
        go_roundw
        case rel => exact ⟨k + 1, f, by omega, by go_num, TA.out, HF.out⟩
        case measure => simp [intOf]; omega
    · obtain rfl : k = l.length := by omega
      have T0 := Lib.hid hT.out.1
      have HF := Lib.hid hT.out.2
      clear hT R3' B3
      go_wp2_with fail
      refine (new_c _).mono ?_
      rintro e w5 ⟨ra, rfl, hW, hb⟩
      have S5 : Hid (Rw W A L nd A' L' nd' a b D 0 (mkQ a b f xl0 xb0) gV f ra [] (.slice none 0 0) [] w5) := ⟨T0.out.step hb, hW.low T0.out.below.size, Bi.bits_nil, World.ownsRow_nil _ _ _ _⟩
      obtain ⟨iO, hiO, hzO, hzO1, hzO2⟩ := info_parts infoOT
      clear hW hb T0
      go_wp2_with fail
      go_loopw [15, 94] (fun gv i wr => ∃ (k : Nat) (u : Int) (Q : Nat → Nat → Nat → Nd) (bs : List Int) (G : List OpT), k ≤ l.length ∧ i = .int .i64 (k : Int) ∧ Hid (Rw W A L nd A' L' nd' a b D u Q gV f ra bs gv G wr ∧ (u = 0 ∨ u = 1) ∧ (bs, Q) = hist a b D (mkQ a b f xl0 xb0) G ∧ (∀ o ∈ G, okT a b o.x o.y o.v 65536) ∧ G.length ≤ k)) (fun _ i _ => l.length - (intOf i).toNat)
      case atStart => exact ⟨0, 0, _, [], [], Nat.zero_le _, rfl, S5.out, .inl rfl, rfl, fun o h => by simp at h, Nat.le_refl _⟩
      case round =>
        obtain ⟨k, u, Q, bs, G, hk, rfl, hT⟩ := hrel
        by_cases hlt : k < l.length
        · obtain ⟨g, off, hs, oo⟩ := (HO1.out.call hT.out.1.rt.below).at hlt
          subst hs
          obtain ⟨o0, o1, o2, o3⟩ := oo
          generalize l[k] = o at *
          have T0 := Lib.hid hT.out
          have hl100 := HZ.out.2.2
          have SA := Lib.hid (T0.out.1.step (below_alloc (Below.refl _ wr) (.cells #[.int .i64 o.k, .int .i64 o.x, .int .i64 o.y, .int .i64 o.v] 66)))
          have BA := Lib.hid (Bo.new wr o)
          have hbl : bs.length ≤ 45876600 := by
            have h1 := hist_len (w := a) (h := b) (D := D) HF.out HD.out G (by have := T0.out.2.2.2.2; omega)
            rw [← T0.out.2.2.1] at h1
            exact h1
          have hen := encode_c SA.out.rt.t SA.out.wr SA.out.bits (by omega) o.x o.y o.v
          have hu2 : u ≠ 2 := by have := T0.out.2.1; omega
          have EE : Hid (enE a b u o.x o.y o.v = if okT a b o.x o.y o.v 65536 then 0 else 2) := Lib.hid (by unfold enE; rw [if_neg hu2])
          have HIS : Hid ((enS Q a b D u bs o.x o.y o.v, enQ Q a b D u bs o.x o.y o.v) = hist a b D (mkQ a b f xl0 xb0) (G ++ [o])) := Lib.hid (by
            rw [hist_snoc, ← T0.out.2.2.1, (enS_u hu2).1, (enS_u hu2).2]
            rfl)
          have U1 : Hid (okT a b o.x o.y o.v 65536 → enU a b u o.x o.y o.v = 1) := Lib.hid (fun hc => by unfold enU; rw [if_neg (fun c => c.elim hu2 (fun d => d hc))])
          have U2 : Hid (¬ okT a b o.x o.y o.v 65536 → enU a b u o.x o.y o.v = u ∧ enS Q a b D u bs o.x o.y o.v = bs ∧ enQ Q a b D u bs o.x o.y o.v = Q) := Lib.hid (fun hc => by
            unfold enU enS enQ
            have h1 : u = 2 ∨ ¬ okT a b o.x o.y o.v 65536 := .inr hc
            simp only [if_pos h1, and_self])
          obtain ⟨ok, ox, oy, ov⟩ := o
          dsimp only at *
          clear hT hu2 hbl
          by_cases hk1 : ok = 1
          · subst hk1
            by_cases hc : okT a b ox oy ov 65536
            · generalize hes : enS Q a b D u bs ox oy ov = s1 at *
              generalize heq : enQ Q a b D u bs ox oy ov = Q1 at *
              have he0 := EE.out
              rw [if_pos hc] at he0
              rw [he0, U1.out hc] at hen
              have OK := Lib.hid hc
              obtain ⟨⟨i1, i2, i3, i4⟩, i5, i6⟩ := id hc
              have ins := fun X => inside_c ⟨1, ox, oy, ov⟩ a b i1 i2 i3 i4 X
              dsimp only at ins
              clear hes heq he0 hc i1 i2 i3 i4 i5 i6 U1 U2 EE
              go_wp2_with fail
              refine hen.mono ?_
              rintro e w6 ⟨rfl, hE⟩
              have S6 := Lib.hid (SA.out.enc hE)
              have B6 := Lib.hid (SA.out.box hE BA.out)
              obtain ⟨q0, q1, q2, q3⟩ := B6.out.cells
              dsimp only at q0 q1 q2 q3
              clear hen hE o0 o1 o2 o3 SA BA
              go_wp2_with fail
              refine (ins _).mono ?_
              rintro e w7 ⟨rfl, hb⟩
              have S7 := Lib.hid (S6.out.step hb)
              have B7 := Lib.hid (B6.out.below hb)
              obtain ⟨p0, p1, p2, p3⟩ := B7.out.cells
              dsimp only at p0 p1 p2 p3
              have hG100 : G.length ≤ 100 := by have := T0.out.2.2.2.2; omega
              have hx7 := S7.out.rt.below.size
              clear ins hb q0 q1 q2 q3 S6 B6
              go_wp2_with (first | (at_builtin; refine wpList_append_own_at _ rfl _ _ 63 rfl W.heap.size 66 iO _ 4 32 Try.underlying63 hiO hzO hzO1 hzO2 rfl (by decide) _ G.length (opCT G) rfl (own_keepT S7.out.own (fun g _ _ hB => Below.heap_alloc _ _ _ hB.lt)) ⟨w7.heap.size, 0, none⟩ 1 1 [.int .i64 1, .int .i64 ox, .int .i64 oy, .int .i64 ov] rfl rfl (one_opT _ _ _ _ _ _) (oneOpT _ _ _ _) (by unfold maxLen; omega) (by omega) (by simp; omega) ?_))
              intro v' w8 hown hgrow _ hat
              have S8 := Lib.hid (S7.out.push (o := ⟨1, ox, oy, ov⟩) hgrow (by simpa using hown))
              have F8 : Hid ((s1, Q1) = hist a b D (mkQ a b f xl0 xb0) (G ++ [⟨1, ox, oy, ov⟩]) ∧ (∀ o ∈ G ++ [⟨1, ox, oy, ov⟩], okT a b o.x o.y o.v 65536) ∧ (G ++ [(⟨1, ox, oy, ov⟩ : OpT)]).length ≤ k + 1) := ⟨HIS.out, fun o ho => by
                rcases List.mem_append.1 ho with h1 | h1
                · exact T0.out.2.2.2.1 o h1
                · simp at h1; subst h1; exact OK.out, by have := T0.out.2.2.2.2; simp; omega⟩
              clear hown hgrow hat p0 p1 p2 p3 hx7 S7
              go_wp2_with fail
              go_roundw
              case rel => exact ⟨k + 1, 1, Q1, s1, _, by omega, by go_num, S8.out, .inr rfl, F8.out⟩
              case measure => simp [intOf]; omega
            · have he0 := EE.out
              rw [if_neg hc] at he0
              obtain ⟨e1, e2, e3⟩ := U2.out hc
              rw [he0, e1, e2, e3] at hen
              clear he0 hc e1 e2 e3
              go_wp2_with fail
              refine hen.mono ?_
              rintro e w6 ⟨rfl, hE⟩
              have S6 := Lib.hid (SA.out.enc hE)
              clear hen hE o0 o1 o2 o3
              go_wp2_with fail
              go_roundw
              case rel => exact ⟨k + 1, u, Q, bs, G, by omega, by go_num, S6.out, T0.out.2.1, T0.out.2.2.1, T0.out.2.2.2.1, Nat.le_succ_of_le T0.out.2.2.2.2⟩
              case measure => simp [intOf]; omega
          · have hk2 : (ok != 1) = true := by simpa using hk1
            clear hk1 hen
            go_wp2_with fail
            go_roundw
            case rel => exact ⟨k + 1, u, Q, bs, G, by omega, by go_num, SA.out, T0.out.2.1, T0.out.2.2.1, T0.out.2.2.2.1, Nat.le_succ_of_le T0.out.2.2.2.2⟩
            case measure => simp [intOf]; omega
        · obtain rfl : k = l.length := by omega
          have T0 := Lib.hid hT.out
          have hG100 : G.length ≤ 100 := by have := T0.out.2.2.2.2; have := HZ.out; omega
          have hbl : bs.length ≤ 45876600 := by
            have h1 := hist_len (w := a) (h := b) (D := D) HF.out HD.out G hG100
            rw [← T0.out.2.2.1] at h1
            exact h1
          obtain ⟨_, sg, mg, hgv, _⟩ := holdsT_own T0.out.1.own
          subst hgv
          have HS : Hid (bs = (hist a b D (mkQ a b f xl0 xb0) G).1) := Lib.hid (by rw [← T0.out.2.2.1])
          have by_ := bytes_c _ _ _ _ T0.out.1.wr (by omega)
          have hel := enc_leT bs
          have BG : Hid (Bi.Begins (Bi.enc bs) bs ∧ Bi.bytes (Bi.enc bs) ∧ Bi.bits bs ∧ (Bi.enc bs).length ≤ 100000000) := ⟨⟨enc_bytesT T0.out.1.bits, [], by simp⟩, enc_bytesT T0.out.1.bits, T0.out.1.bits, by omega⟩
          clear hT hbl hel
          go_wp2_with fail
          refine by_.mono ?_
          rintro e w6 ⟨g, pad, rfl, hr, _, hb⟩
          have S6 := Lib.hid (T0.out.1.step hb)
          have rn := rnew_c w6 (Bi.enc bs) (some ⟨g, 0, none⟩) (Bi.enc bs).length hr.holds (by simp) (by have := BG.out.2.2.2; omega)
          clear by_ hr hb
          generalize Bi.enc bs = E at *
          go_wp2_with fail
          refine rn.mono ?_
          rintro e w7 ⟨r, rfl, hR, hb⟩
          have S7 := Lib.hid (R3.start S6.out hR hb)
          have HGOK := Lib.hid T0.out.2.2.2.1
          clear rn hR hb S6 T0
          go_wp2_with fail
          go_loopw [128] (fun i wr => ∃ (j : Nat) (u' : Int) (R : Nat → Nat → Nat → Nd) (tt : Nat), j ≤ G.length ∧ i = .int .i64 (j : Int) ∧ Hid (R3 W A' L' nd' a b D u' R gV f r E tt (.slice sg G.length mg) G wr ∧ u' ≠ 1 ∧ Lq (hist a b D (mkQ a b f xl0 xb0) (G.take j)).2 R ∧ tt = Bi.P (hist a b D (mkQ a b f xl0 xb0) G).1 (hist a b D (mkQ a b f xl0 xb0) (G.take j)).1.length)) (fun i _ => G.length - (intOf i).toNat)
          case atStart => exact ⟨0, 0, _, 0, Nat.zero_le _, rfl, S7.out, by omega, fun k X Y => ⟨rfl, rfl⟩, rfl⟩
          case round =>
            obtain ⟨j, u', R, tt, hj, rfl, hT⟩ := hrel
            by_cases hlt : j < G.length
            · have T0 := Lib.hid hT.out
              have HG : HoldsT wr sg G := by
                obtain ⟨_, s', m', he, hq⟩ := holdsT_own T0.out.1.own
                cases he
                exact hq
              have okG := HGOK.out G[j] (List.getElem_mem _)
              obtain ⟨g, off, hs, oo⟩ := HG.at hlt
              subst hs
              obtain ⟨o0, o1, o2, o3⟩ := oo
              have hS0 : Bi.bits (hist a b D (mkQ a b f xl0 xb0) G).1 := by rw [← HS.out]; exact BG.out.2.2.1
              have hB0 : Bi.Begins E (hist a b D (mkQ a b f xl0 xb0) G).1 := by rw [← HS.out]; exact BG.out.1
              have rs := ret_step (bs := E) T0.out.1.tr.d1 HF.out hlt T0.out.2.2.1 okG T0.out.2.1 hS0 hB0 T0.out.2.2.2
              have hle : tt ≤ 8 * E.length := by
                rw [T0.out.2.2.2]
                exact P_leT hS0 hB0 (hist_pre (jq_new (w := a) (h := b) (D := D) HF.out) (fun k x y => ⟨Int.le_refl _, by show (0 : Int) ≤ 65536; omega⟩) G j).length_le
              generalize G[j] = o at *
              have SA := Lib.hid (T0.out.1.step (below_alloc (Below.refl _ wr) (.cells #[.int .i64 o.k, .int .i64 o.x, .int .i64 o.y, .int .i64 o.v] 66)))
              have BA := Lib.hid (Bo.new wr o)
              have de := decode_c SA.out.tr SA.out.rd hle BG.out.2.1 BG.out.2.2.2 o.x o.y o.v
              obtain ⟨e1, e2, e3, e4, e5, e6⟩ := rs
              rw [e1, e3, e5] at de
              have E2 := Lib.hid e2
              have E4 := Lib.hid e4
              generalize deT E R a b D u' tt o.x o.y o.v = t2 at *
              generalize deQ E R a b D u' tt o.x o.y o.v = R2 at *
              have E6 := Lib.hid e6
              obtain ⟨ok, ox, oy, ov⟩ := o
              dsimp only at *
              obtain ⟨⟨i1, i2, i3, i4⟩, i5, i6⟩ := id okG
              obtain ⟨X, rfl⟩ : ∃ n : Nat, ox = n := ⟨ox.toNat, by omega⟩
              obtain ⟨Y, rfl⟩ : ∃ n : Nat, oy = n := ⟨oy.toNat, by omega⟩
              rw [Int.toNat_natCast, Int.toNat_natCast] at de
              have E6' : Hid (f X Y < ov → vlV a b R2 X Y = f X Y ∧ vlB a b R2 X Y = true) := E6.out
              have HXY : Hid (X < a ∧ Y < b) := Lib.hid (by omega)
              clear hT hle hS0 hB0 e1 e2 e3 e4 e5 e6 E6 okG i1 i2 i3 i4 i5 i6 HG
              go_wp2_with fail
              refine de.mono ?_
              rintro e w8 ⟨rfl, hE⟩
              have S8 := Lib.hid (SA.out.dec hE)
              have B8 := Lib.hid (SA.out.box hE BA.out)
              obtain ⟨q0, q1, q2, q3⟩ := B8.out.cells
              dsimp only at q0 q1 q2 q3
              have vc := value_c S8.out.tr X Y
              have c4 := S8.out.vs.at HXY.out.1 HXY.out.2
              have hix : Y * a + X < N := by rw [HN.out]; exact grid_lt HXY.out.1 HXY.out.2
              have hN6 : N ≤ 65536 := by rw [HN.out]; exact S8.out.tr.sz
              have m1 := wrap_mulT Y a (by omega)
              have m2 : IntKind.i64.wrap (((Y * a : Nat) : Int) + (X : Int)) = ((Y * a + X : Nat) : Int) := by rw [IntWalk.i64_left]; generalize Y * a = P at *; unfold wrap64; omega
              have ixI : ((Y * a + X : Nat) : Int) < (N : Int) := by omega
              generalize Y * a + X = p at *
              generalize Y * a = pp at *
              clear de hE o0 o1 o2 o3 SA BA
              by_cases hv : f X Y < ov
              · rw [(E6'.out hv).1, (E6'.out hv).2] at vc
                rw [decide_eq_true hv]
                have hne : (f X Y != f X Y) = false := by simp
                generalize f X Y = fv at *
                go_wp2_with fail
                refine vc.mono ?_
                rintro e w9 ⟨rfl, hb⟩
                have S9 := Lib.hid (S8.out.step hb)
                clear vc hb q0 q1 q2 q3 c4 S8 B8
                go_wp2_with fail
                go_roundw
                case rel => exact ⟨j + 1, 2, R2, t2, by omega, by go_num, S9.out, by omega, E4.out, E2.out⟩
                case measure => simp [intOf]; omega
              · rw [decide_eq_false hv]
                generalize f X Y = fv at *
                generalize vlV a b R2 X Y = vv at *
                generalize vlB a b R2 X Y = vb at *
                go_wp2_with fail
                refine vc.mono ?_
                rintro e w9 ⟨rfl, hb⟩
                have S9 := Lib.hid (S8.out.step hb)
                clear vc hb q0 q1 q2 q3 c4 S8 B8
                go_wp2_with fail
                go_roundw
                case rel => exact ⟨j + 1, 2, R2, t2, by omega, by go_num, S9.out, by omega, E4.out, E2.out⟩
                case measure => simp [intOf]; omega
            · obtain rfl : j = G.length := by omega
              have B0 := Lib.hid hT.out.1.below
              clear hT
              go_wp2_with fail
              refine (ex10_c _).mono ?_
              rintro e wz ⟨rfl, hb⟩
              have BZ := Lib.hid (below_call B0.out hb)
              clear hb
              go_wp2_with fail
              go_ret
              exact ⟨rfl, BZ.out⟩
theorem no (w h : Int) (hok : ¬ okN w h) (l : List OpT) (s : Option Addr) (m : Nat) (W : World) (HO : HoldsT W s l) : Calls Try.prog 14 #[.int .i64 w, .int .i64 h, .slice s l.length m] W fun e w' => e = .returned (.bool true) ∧ Below W.heap.size W w' := by
  have n1 := tnew_no w h hok
  have sm := small_c w h l s m W HO
  have hne := chE_ne hok
  have heq : (chE w h != chE w h) = false := by simp
  generalize chE w h = ce at *
  clear hok HO
  go_enter Try.func14, Try.ntmps14
  go_wp2_with fail
  refine sm.mono ?_
  rintro e w1 ⟨z, rfl, hz, hb⟩
  have B1 := Lib.hid hb
  clear hb sm hz
  cases z with
  | false =>
    go_wp2_with fail
    refine (ex10_c _).mono ?_
    rintro e wz ⟨rfl, hb⟩
    have BZ := Lib.hid (below_call B1.out hb)
    clear hb
    go_wp2_with fail
    go_ret
    exact ⟨rfl, BZ.out⟩
  | true =>
    go_wp2_with (first | (go_at_call 37; (with_reducible refine (n1 _).mono ?_); rintro e wn ⟨rfl, rfl⟩))
    refine (ex10_c _).mono ?_
    rintro e wz ⟨rfl, hb⟩
    have BZ := Lib.hid (below_call B1.out hb)
    clear hb
    go_wp2_with fail
    go_ret
    exact ⟨rfl, BZ.out⟩
theorem walk (w h : Int) (l : List OpT) (s : Option Addr) (m : Nat) (W : World) (HO : HoldsT W s l) : Calls Try.prog 14 #[.int .i64 w, .int .i64 h, .slice s l.length m] W fun e w' => e = .returned (.bool true) ∧ Below W.heap.size W w' := by
  by_cases hok : okN w h
  · obtain ⟨a, rfl⟩ : ∃ n : Nat, w = n := ⟨w.toNat, by unfold okN at hok; omega⟩
    obtain ⟨b, rfl⟩ : ∃ n : Nat, h = n := ⟨h.toNat, by unfold okN at hok; omega⟩
    exact yes a b hok l s m W HO
  · exact no w h hok l s m W HO

set_option maxRecDepth 100000 in
theorem lifted (os : Os) (started : os.Started) (H : Type) (enc : TypeId × Value → H) :
    ReturnsInHanded {} Try.checked os 14 .any (Rows.tagtreeReturnsSpec.pre6 enc Try.prog Try.f14 Rows.tagtreeReturnsRow.domain false) (Rows.tagtreeReturnsSpec.post enc Try.prog Try.f14 false true false false) := by
  refine returnsInHanded_of_change (C := Try.checked) own started (by kernel_rfl) Try.func14
    (ChangeSpec.witness6 (enc := enc) (C := Try.checked) false ⟨#[], #[.int .i64 0, .int .i64 0, .slice none 0 0], []⟩ 8 (by kernel_rfl) (by kernel_rfl) (by kernel_rfl) (by kernel_rfl)) ?_
  intro W base args ds gs before hval0 hW _ _
  have hval : ∀ (j : Nat) t v, Try.f14.params[j]? = some t → args[j]? = some v → Value.okWide Try.prog W .any base t v := hval0
  have hW' := hW
  obtain ⟨p, q, hA0, hV, rfl, _, _⟩ := hW
  have hA : DataW.TrodAll enc Try.prog W 0 (fun _ => true) true Try.f14.params.toList args.toList ds p := hA0
  rw [Try.params14] at hA hval
  obtain ⟨v0, vs0, d0, ds0, p0, q0, hargs, rfl, rfl, h0, r0⟩ := trodAll_cons hA
  obtain ⟨v1, vs1, d1, ds1, p1, q1, rfl, rfl, rfl, h1, r1⟩ := trodAll_cons r0
  obtain ⟨v2, vs2, d2, ds2, p2, q2, rfl, rfl, rfl, h2, r2⟩ := trodAll_cons r1
  obtain ⟨rfl, rfl, rfl⟩ := trodAll_nil r2
  obtain rfl : args = #[v0, v1, v2] := by cases args; simp_all
  obtain ⟨rfl, rfl⟩ := trodVars_none hV
  clear hA0 hval0
  simp only [List.append_nil] at hW'
  have l0 : ∀ x ∈ p0, x.block < W.heap.size := fun x hx => hW'.lt x (by simp [hx])
  have l1 : ∀ x ∈ p1, x.block < W.heap.size := fun x hx => hW'.lt x (by simp [hx])
  have l2 : ∀ x ∈ p2, x.block < W.heap.size := fun x hx => hW'.lt x (by simp [hx])
  obtain ⟨i0, rfl, _, _, wi0⟩ := open_int Try.underlying3 (hval 0 3 v0 rfl rfl) h0
  obtain ⟨i1, rfl, _, _, wi1⟩ := open_int Try.underlying3 (hval 1 3 v1 rfl rfl) h1
  obtain ⟨s2, o2, m2, rfl, hO2⟩ := open_ops (hval 2 63 v2 rfl rfl) h2
  refine (walk i0 i1 o2 s2 m2 W hO2).mono fun e W' ⟨he, hb⟩ => ?_
  subst he
  exact ⟨_, rfl, post_low (pa := p0 ++ (p1 ++ (p2 ++ ([])))) (pv := []) hW' (fun _ _ _ => (trodAll_cons_mk (shut_bool Try.underlying4 _) trodAll_mk0)) (fun sp hsp => (trodAll_cons_mk (trod_low laidOut (by kernel_rfl) (of_decide_eq_true (by kernel_rfl)) h0 hb l0 (fun x hx => hsp x (by simp [hx]))) (trodAll_cons_mk (trod_low laidOut (by kernel_rfl) (of_decide_eq_true (by kernel_rfl)) h1 hb l1 (fun x hx => hsp x (by simp [hx]))) (trodAll_cons_mk (trod_low laidOut (by kernel_rfl) (of_decide_eq_true (by kernel_rfl)) h2 hb l2 (fun x hx => hsp x (by simp [hx]))) trodAll_mk0)))) (fun _ _ => rfl) (by simp) hb (ok_one (by kernel_rfl) rfl (okWide_bool_mk Try.underlying4 _))⟩

theorem over : Rows.tagtreeReturnsRow.holds Try.pinned (OpenSpec.ofChange Rows.tagtreeReturnsSpec) :=
  OpenClaim.holds_of_wide 14 Try.f14 rfl rfl rfl rfl rfl rfl rfl ⟨rfl, rfl, rfl, rfl, rfl⟩ rfl rfl rfl rfl rfl (by kernel_rfl) Try.func14 (by kernel_rfl)
    (of_decide_eq_true (by kernel_rfl)) (by unfold Func.isWrapper; first | (rw [if_pos (by decide +kernel)]; kernel_rfl) | (rw [if_neg (by decide +kernel)]; exact ⟨rfl, rfl⟩))
    (fun os started H enc _ => lifted os started H enc)

theorem proved : Rows.TagtreeReturnsSaid :=
  over
#print axioms proved
end Go.Proofs.Ytlhncjdghpggiaa.tagtreeReturns
