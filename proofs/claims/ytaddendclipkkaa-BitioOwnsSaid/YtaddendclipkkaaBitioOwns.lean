/-
  For all bytes and lists of calls the statement BitioOwns returns true; they read afterwards as before.
  Conditions: none beyond those of the given statement.
-/
import Derived.Test.YtaddendclipkkaaOw
set_option maxRecDepth 100000
namespace Go.Proofs.Ytaddendclipkkaa.bitioOwns
open Go.ChangeShapes Go.WideShapes Go.ChangeAt Go.RowKit Go.Joins Go.Deep

set_option maxHeartbeats 8000000 in
theorem rest (l : List (Int × Int × Int)) (s : Option Addr) (m : Nat) (lb : List Int) (sb : Option Addr) (mb : Nat) (w : World) (hO : HoldsO w s l) (HB : HoldsB w sb lb) (HY : Bi.bytes lb) (HN : sb = none → lb = [] ∧ mb = 0) (hfb : fewO l = true) (h500 : lb.length ≤ 500) :
    Calls Try.prog 3 #[.slice sb lb.length mb, .slice s l.length m] w fun e w' => e = .returned (.bool true) ∧ Below w.heap.size w w' := by
  have hf := few_c l s m w hO
  rw [hfb] at hf
  have hl200 : l.length ≤ 200 := by simp [fewO] at hfb; exact hfb.1
  have HF := Lib.hid (fun k => wrL_few hfb k)
  have HOO := Lib.hid hO
  have HBB := Lib.hid HB
  have HYY := Lib.hid HY
  have HNN := Lib.hid HN
  have h5 : ¬ (500 : Int) < (lb.length : Int) := by omega
  obtain ⟨i0, hi, hz0, hz1, hz2⟩ := info_parts info8
  clear hfb hO HY
  go_enter Try.func3, Try.ntmps3
  go_wp2_with fail
  refine hf.mono ?_
  rintro e w1 ⟨rfl, hb1⟩
  have B1 := Lib.hid hb1
  have HA := Lib.hid (fun X => (Below.refl w1.heap.size w1).alloc (Nat.le_refl _) X)
  clear hf hb1
  go_upto_region 3 with fail
  go_cut [5] (fun s5 wx => ∃ gc mc, s5 = .slice (some ⟨gc, 0, none⟩) lb.length mc ∧ Hid (w1.heap.size ≤ gc ∧ gc < wx.heap.size ∧ (∃ cs, Blk wx gc 5 cs ∧ ∀ k (_ : k < lb.length), cs[k]? = some (.int .u8 lb[k])) ∧ Below w1.heap.size w1 wx))
  case first =>
    cases sb with
    | none =>
      obtain ⟨rfl, rfl⟩ := HN rfl
      have HO := Lib.hid (World.ownsRow_made w1 #[] 0 (Nat.le_refl _) (by decide : (0:Nat) ≤ maxLen) (by simp) : (w1.alloc (.cells #[] 5)).ownsRow w1.heap.size 5 1 (.slice (some ⟨w1.heap.size, 0, none⟩) 0 0) 0 [])
      go_wp2_with (first | (at_builtin; refine wpList_append_own_none rfl _ _ 22 rfl w1.heap.size 5 i0 1 Try.underlying22 hi _ 0 [] rfl HO.out rfl ?_))
      go_meet
      exact ⟨w1.heap.size, 0, rfl, Nat.le_refl _, by simp, ⟨_, Blk.new w1 5 #[], fun k hk => by simp at hk⟩, HA.out _⟩
    | some p =>
      have HNW := Lib.hid (fun X => holdsB_list ((HBB.out.call B1.out).call (HA.out X)))
      go_wp2_with (first | (at_builtin; refine wpList_append_own_at _ rfl _ _ 22 rfl w1.heap.size 5 i0 (.int .u8 0) 1 1 Try.underlying22 hi hz0 hz1 hz2 rfl (by decide) _ 0 [] rfl (World.ownsRow_made w1 #[] 0 (Nat.le_refl _) (by decide) (by simp)) p lb.length mb (lb.map (Value.int .u8)) rfl (by simp) (HNW.out _) (one8 lb) (by unfold maxLen; omega) (by omega) (by simp) ?_))
      intro v' w2 hown hgrow hnil hat
      have hb : Below w1.heap.size w1 w2 := (HA.out _).grown hgrow (by simp) (fun k hk => by simp [Value.ownBlock] at hk; omega)
      have hres : ∃ gc mc, v' = .slice (some ⟨gc, 0, none⟩) lb.length mc ∧ w1.heap.size ≤ gc ∧ gc < w2.heap.size ∧ ∃ cs, Blk w2 gc 5 cs ∧ ∀ k (_ : k < lb.length), cs[k]? = some (.int .u8 lb[k]) := by
        have hown2 : w2.ownsRow w1.heap.size 5 1 v' lb.length (lb.map (Value.int .u8)) := by simpa using hown
        obtain ⟨q1, q2⟩ := hown2
        rcases q2 with ⟨rfl, h2⟩ | ⟨g', cap, cur, rfl, h2, h3, h4, h5, h6, h7⟩
        · simp at hnil
        · refine ⟨g', cap, rfl, h2, Blk.lt (t := 5) h3, cur, h3, fun k hk => ?_⟩
          have e : (lb.map (Value.int .u8))[k]? = some (.int .u8 lb[k]) := by simp [hk]
          rw [← h7, List.getElem?_take_of_lt (by omega), Array.getElem?_toList] at e
          exact e
      obtain ⟨gc, mc, rfl, r1, r2, r3⟩ := hres
      have R := Lib.hid (And.intro r1 (And.intro r2 (And.intro r3 hb)))
      clear hown hgrow hnil hat hb r1 r2 r3
      go_wp2_with fail
      go_meet
      exact ⟨gc, mc, rfl, R.out⟩
  case rest =>
  obtain ⟨gc, mc, rfl, hC⟩ := hcut
  obtain ⟨w2, rfl⟩ : ∃ w2 : World, w2 = wc := ⟨_, rfl⟩
  have C2 := Lib.hid hC.out
  have B2 := Lib.hid (below_call B1.out C2.out.2.2.2)
  have hcB : HoldsB w2 (some ⟨gc, 0, none⟩) lb := .inr ⟨gc, 0, rfl, fun k hk => by
    obtain ⟨cs, h1, h2⟩ := C2.out.2.2.1
    rw [h1.cell, Nat.zero_add]
    exact h2 k hk⟩
  have rn := rnew_c w2 lb (some ⟨gc, 0, none⟩) mc hcB (by simp) (by omega)
  clear hC hcB HA HB HN
  go_wp2_with fail
  refine rn.mono ?_
  rintro e w3 ⟨a, rfl, hR, hb⟩
  have R3 := Lib.hid (And.intro hR hb)
  have sn := snew_c w3 lb sb mb (HBB.out.call (below_call B2.out hb)) HNN.out (by omega)
  clear rn hR hb
  go_wp2_with fail
  refine sn.mono ?_
  rintro e w4 ⟨r, rfl, hS, hb⟩
  have S4 : Hid (Ow w a r gc lb lb.length 0 w4) := Lib.hid (by
    have z2 := B2.out.size
    have z3 := R3.out.2.size
    have z1 := B1.out.size
    have hR4 := R3.out.1.below hb
    obtain ⟨cs, h1, h2⟩ := C2.out.2.2.1
    have hg := C2.out.2.1
    refine ⟨hR4.lower z2, Sp.lower hS (by omega), Dj.new hb R3.out.1.fl (fun k hk => (hS.foot k hk).1), fun k hk => ?_, fun k hk => ?_, by have := C2.out.1; omega, ⟨cs, (h1.below R3.out.2).below hb, fun k _ hk => ⟨lb[k], h2 k hk, HYY.out _ (List.getElem_mem _)⟩⟩, below_call (below_call B2.out R3.out.2) hb⟩
    · have := (hR4.foot k hk).1; omega
    · have := (hS.foot k hk).1; omega)
  clear sn hS hb R3 C2
  go_wp2_with fail
  go_loopw [38] (fun i wr => ∃ k : Nat, k ≤ lb.length ∧ i = .int .i64 (k : Int) ∧ Hid (Ow w a r gc lb lb.length k wr)) (fun i _ => lb.length - (intOf i).toNat)
  case atStart => exact ⟨0, Nat.zero_le _, rfl, S4.out⟩
  case round =>
    obtain ⟨k, hk, rfl, hT⟩ := hrel
    by_cases hlt : k < lb.length
    · have hltI : (k : Int) < (lb.length : Int) := by omega
      obtain ⟨x, hx, x0, x1⟩ : ∃ x : Int, wr.cell? ⟨gc, k, none⟩ = some (.int .u8 x) ∧ 0 ≤ x ∧ x ≤ 255 := by
        obtain ⟨cs, h1, h2⟩ := hT.out.row
        obtain ⟨x, h3, h4⟩ := h2 k (Nat.le_refl _) hlt
        exact ⟨x, by rw [h1.cell]; exact h3, h4⟩
      have hfr := hT.out.row.elim fun cs z => z.1.free
      have T1 := Lib.hid (fun y => hT.out.set y)
      clear hT
      go_wp2_with fail
      go_roundw
      case rel => exact ⟨k + 1, by omega, by go_num, T1.out _⟩
      case measure => simp [intOf]; omega
    · obtain rfl : k = lb.length := by omega
      have T0 := Lib.hid (show Rs w a r lb 0 wr from ⟨hT.out.rd, hT.out.sd, hT.out.dj, Nat.zero_le _, hT.out.below⟩)
      clear hT
      go_wp2_with fail
      go_loopw [9] (fun i wr => ∃ (k t : Nat), k ≤ 16 ∧ i = .int .i64 (k : Int) ∧ Hid (Rs w a r lb t wr)) (fun i _ => 16 - (intOf i).toNat)
      case atStart => exact ⟨0, 0, by omega, rfl, T0.out⟩
      case round =>
        obtain ⟨k, t, hk, rfl, hT⟩ := hrel
        by_cases hlt : k < 16
        · have hltI : (k : Int) < 16 := by omega
          have hlb : lb.length ≤ 100000000 := by omega
          have g1 := get_c _ _ _ _ _ hT.out.rd hT.out.le HYY.out hlb
          have g2 := fun (X : World) (h : Sd X w.heap.size r lb t) => sget_c X _ _ _ _ h hT.out.le HYY.out hlb
          have LE := Lib.hid (Bi.gN_le hT.out.le).2
          have T1 := Lib.hid hT.out
          have n1 : (Bi.gR lb t != Bi.gR lb t) = false := by simp
          have n2 : (Bi.gE lb t != Bi.gE lb t) = false := by simp
          clear hT
          generalize Bi.gR lb t = gR at *
          generalize Bi.gE lb t = gE at *
          generalize Bi.gN lb t = gN at *
          go_wp2_with fail
          refine g1.mono ?_
          rintro e x1 ⟨rfl, hR, hK⟩
          have X1 := Lib.hid (T1.out.get hR hK)
          have XR := Lib.hid hR
          have g3 := g2 x1 X1.out.1
          clear g1 g2 hR hK
          go_wp2_with fail
          refine g3.mono ?_
          rintro e x2 ⟨rfl, hS, hK⟩
          have X2 := Lib.hid (Rs.mk2 XR.out X1.out.1 X1.out.2.1 X1.out.2.2 hS hK LE.out)
          clear g3 hS hK
          go_wp2_with fail
          go_roundw
          case rel => exact ⟨k + 1, gN, by omega, by go_num, X2.out⟩
          case measure => simp [intOf]; omega
        · have hltI : ¬ (k : Int) < 16 := by omega
          have B3 := Lib.hid hT.out.below
          clear hT
          go_wp2_with fail
          refine (new_c _).mono ?_
          rintro e w5 ⟨aw, rfl, hW, hb⟩
          have W5 := Lib.hid (And.intro hW (And.intro (below_call B3.out hb) B3.out.size))
          clear hW hb
          go_wp2_with fail
          refine (vnew_c _).mono ?_
          rintro e w6 ⟨v, rfl, hV, hb⟩
          have T6 : Hid (Two w aw v [] w6) := Lib.hid (by
            have z := W5.out.2.1.size
            exact two_start (W5.out.1.below hb) hV (Dj.new hb W5.out.1.fl (fun k hk => (hV.foot k hk).1)) (below_call W5.out.2.1 hb) W5.out.2.2 z)
          clear hV hb W5
          go_wp2_with fail
          go_loopw [74] (fun i wr => ∃ k : Nat, k ≤ l.length ∧ i = .int .i64 (k : Int) ∧ Hid (Two w aw v (wrL (l.take k)) wr)) (fun i _ => l.length - (intOf i).toNat)
          case atStart => exact ⟨0, Nat.zero_le _, rfl, T6.out⟩
          case round =>
            obtain ⟨k, hk, rfl, hT⟩ := hrel
            by_cases hlt : k < l.length
            · obtain ⟨bo, off, rfl, hr⟩ : ∃ b off, s = some ⟨b, off, none⟩ ∧ ∀ k (_ : k < l.length), OpAt wr b (off + k * 3) l[k] := by
                rcases HOO.out.call hT.out.below with rfl | h
                · simp at hlt
                · exact h
              obtain ⟨c0, c1, c2⟩ := hr k hlt
              obtain ⟨q, hq⟩ : ∃ q, q = l[k] := ⟨_, rfl⟩
              obtain ⟨q0, q1, q2⟩ := q
              rw [← hq] at c0 c1 c2
              have hsn : Hid (wrL (l.take (k + 1)) = wrL (l.take k) ++ wrM q0 q1 q2) := by
                show _ = _
                rw [List.take_succ_eq_append_getElem hlt, wrL_snoc, ← hq]
              have hlen := HF.out k
              have hbits := wrL_bits (l.take k)
              have hA := (Below.refl wr.heap.size wr).alloc (Nat.le_refl _) (.cells #[.int .i64 q0, .int .i64 q1, .int .i64 q2] 38)
              have T0 := Lib.hid (hT.out.step hA)
              have O0 := Lib.hid (Blk.new wr 38 #[.int .i64 q0, .int .i64 q1, .int .i64 q2])
              have hw0 := write_c _ _ aw _ q0 q1 q2 T0.out.wr hbits (by omega)
              have hv0 := fun (x : World) (h : Vr x w.heap.size v (wrL (l.take k))) => writeR_c x _ v _ q0 q1 q2 h (by omega)
              have K0 := op_open O0.out
              obtain ⟨y0, y1, y2⟩ := K0
              clear hr hq hA hT
              generalize wrE q0 q1 q2 = E at *
              generalize wrL (l.take k) ++ wrM q0 q1 q2 = L1 at *
              go_wp2_with fail
              refine hw0.mono ?_
              rintro e x1 ⟨rfl, hW1, hK1⟩
              obtain ⟨hV1, hD1, ho1, hB1⟩ := T0.out.w1 O0.out hK1
              have hv1 := hv0 _ hV1
              have K1 := op_open ho1
              obtain ⟨y0, y1, y2⟩ := K1
              have X1 := Lib.hid (And.intro hW1 (And.intro hV1 (And.intro hD1 hB1)))
              clear hw0 hv0 hW1 hK1 hV1 hD1 ho1 hB1 c0 c1 c2
              go_wp2_with fail
              refine hv1.mono ?_
              rintro e x2 ⟨rfl, hV2, hK2⟩
              have X2 := Lib.hid (Two.w2 X1.out.1 X1.out.2.1 X1.out.2.2.1 X1.out.2.2.2 hV2 hK2)
              clear hv1 hV2 hK2 y0 y1 y2
              go_wp2_with fail
              go_roundw
              case rel => exact ⟨k + 1, by omega, by go_num, by rw [hsn.out]; exact X2.out⟩
              case measure => simp [intOf]; omega
            · obtain rfl : k = l.length := by omega
              have hlen := HF.out l.length
              have hbits := Lib.hid (wrL_bits (l.take l.length))
              have T0 := Lib.hid hT.out
              generalize wrL (l.take l.length) = L at *
              have hby := bytes_c _ _ aw _ T0.out.wr (by omega)
              have hLe := enc_le9 L
              clear hT hlt hk
              go_wp2_with fail
              refine hby.mono ?_
              rintro e x1 ⟨g1, p1, rfl, hr1, hge, hb⟩
              have V1 : Hid (Ov w aw v g1 L (Bi.enc L).length 0 x1) := Lib.hid (by
                have T1 := T0.out.step hb
                refine ⟨T1, fun k hk e => ?_, fun k hk e => ?_, Nat.le_trans T0.out.below.size hge, ⟨_, hr1, fun k _ hk => ?_⟩⟩
                · have h1 := T0.out.wr.fl k ((fp_same (hb.block aw T0.out.wr.lt) k).1 hk); omega
                · have h1 := T0.out.vr.fl k ((fp_same (hb.block v T0.out.vr.lt) k).1 hk); omega
                · refine ⟨(Bi.enc L)[k], ?_, enc_byt9 hbits.out _ (List.getElem_mem _)⟩
                  rw [List.getElem?_toArray, List.getElem?_append_left (by simpa using hk)]
                  simp [hk])
              clear hby hr1 hge hb T0
              generalize hn : (Bi.enc L).length = n at *
              have HNN2 := Lib.hid hn
              clear hn
              go_wp2_with fail
              go_loopw [89] (fun i wr => ∃ k : Nat, k ≤ n ∧ i = .int .i64 (k : Int) ∧ Hid (Ov w aw v g1 L n k wr)) (fun i _ => n - (intOf i).toNat)
              case atStart => exact ⟨0, Nat.zero_le _, rfl, V1.out⟩
              case round =>
                obtain ⟨k, hk, rfl, hT⟩ := hrel
                by_cases hlt : k < n
                · have hltI : (k : Int) < (n : Int) := by omega
                  obtain ⟨x, hx, x0, x1⟩ : ∃ x : Int, wr.cell? ⟨g1, k, none⟩ = some (.int .u8 x) ∧ 0 ≤ x ∧ x ≤ 255 := by
                    obtain ⟨cs, h1, h2⟩ := hT.out.row
                    obtain ⟨x, h3, h4⟩ := h2 k (Nat.le_refl _) hlt
                    exact ⟨x, by rw [h1.cell]; exact h3, h4⟩
                  have hfr := hT.out.row.elim fun cs z => z.1.free
                  have T1 := Lib.hid (fun y => hT.out.set y)
                  clear hT
                  go_wp2_with fail
                  go_roundw
                  case rel => exact ⟨k + 1, by omega, by go_num, T1.out _⟩
                  case measure => simp [intOf]; omega
                · obtain rfl : k = n := by omega
                  have T0 := Lib.hid hT.out.two
                  clear hT
                  have b1 := bytes_c _ _ aw _ T0.out.wr (by omega)
                  go_wp2_with fail
                  refine b1.mono ?_
                  rintro e x1 ⟨g3, p3, rfl, hr3, _, hb⟩
                  have T1 := Lib.hid (T0.out.step hb)
                  have HR := Lib.hid hr3.holds
                  have b2 := vbytes_c _ _ v _ T1.out.vr hbits.out (by omega)
                  clear b1 hr3 hb
                  go_wp2_with fail
                  refine b2.mono ?_
                  rintro e x2 ⟨s2, m2, rfl, hh2, hb2⟩
                  have T2 := Lib.hid (T1.out.step hb2)
                  have sm := fun n m k hn => same_t x2 _ _ _ n m k hn (HR.out.call hb2) hh2
                  have la := len_c _ _ aw _ T2.out.wr
                  have lv := vlen_c _ _ v _ T2.out.vr
                  have B2' := Lib.hid T2.out.below
                  clear b2 hh2 hb2
                  go_wp2_with fail
                  refine (sm _ _ _ rfl).mono ?_
                  rintro e wn ⟨rfl, rfl⟩
                  clear sm
                  go_wp2_with (first | (go_at_call 25; (with_reducible refine la.mono ?_); rintro e wn ⟨rfl, rfl⟩) | (go_at_call 26; (with_reducible refine lv.mono ?_); rintro e wn ⟨rfl, rfl⟩))
                  refine (example09_c _).mono ?_
                  rintro e wz ⟨rfl, hb⟩
                  have BZ := Lib.hid (below_call B2'.out hb)
                  clear hb
                  go_wp2_with fail
                  go_ret
                  exact ⟨rfl, BZ.out⟩
theorem walk (l : List (Int × Int × Int)) (s : Option Addr) (m : Nat) (lb : List Int) (sb : Option Addr) (mb : Nat) (w : World) (hO : HoldsO w s l) (HB : HoldsB w sb lb) (HY : Bi.bytes lb) (HN : sb = none → lb = [] ∧ mb = 0) :
    Calls Try.prog 3 #[.slice sb lb.length mb, .slice s l.length m] w fun e w' => e = .returned (.bool true) ∧ Below w.heap.size w w' := by
  by_cases h5 : lb.length ≤ 500
  · cases hfb : fewO l with
    | true => exact rest l s m lb sb mb w hO HB HY HN hfb h5
    | false =>
      have hf := few_c l s m w hO
      rw [hfb] at hf
      have h6 : ¬ (500 : Int) < (lb.length : Int) := by omega
      clear hfb hO HB HY HN
      go_enter Try.func3, Try.ntmps3
      go_wp2_with fail
      refine hf.mono ?_
      rintro e w1 ⟨rfl, hb1⟩
      have B1 := Lib.hid hb1
      clear hf hb1
      go_wp2_with fail
      refine (example09_c _).mono ?_
      rintro e wz ⟨rfl, hb⟩
      have BZ := Lib.hid (below_call B1.out hb)
      clear hb
      go_wp2_with fail
      go_ret
      exact ⟨rfl, BZ.out⟩
  · have h6 : (500 : Int) < (lb.length : Int) := by omega
    have B0 := Lib.hid (Below.refl w.heap.size w)
    clear hO HB HY HN
    go_enter Try.func3, Try.ntmps3
    go_wp2_with fail
    refine (example09_c _).mono ?_
    rintro e wz ⟨rfl, hb⟩
    have BZ := Lib.hid (below_call B0.out hb)
    clear hb
    go_wp2_with fail
    go_ret
    exact ⟨rfl, BZ.out⟩

set_option maxRecDepth 100000 in
theorem lifted (os : Os) (started : os.Started) (H : Type) (enc : TypeId × Value → H) :
    ReturnsInHanded {} Try.checked os 3 .any (Rows.bitioOwnsSpec.pre6 enc Try.prog Try.f3 Rows.bitioOwnsRow.domain false) (Rows.bitioOwnsSpec.post enc Try.prog Try.f3 false true false false) := by
  refine returnsInHanded_of_change (C := Try.checked) own started (by kernel_rfl) Try.func3
    (ChangeSpec.witness6 (enc := enc) (C := Try.checked) false ⟨#[], #[.slice none 0 0, .slice none 0 0], []⟩ 8 (by kernel_rfl) (by kernel_rfl) (by kernel_rfl) (by kernel_rfl)) ?_
  intro W base args ds gs before hval0 hW _ _
  have hval : ∀ (j : Nat) t v, Try.f3.params[j]? = some t → args[j]? = some v → Value.okWide Try.prog W .any base t v := hval0
  have hW' := hW
  obtain ⟨p, q, hA0, hV, rfl, _, _⟩ := hW
  have hA : DataW.TrodAll enc Try.prog W 0 (fun _ => true) true Try.f3.params.toList args.toList ds p := hA0
  rw [Try.params3] at hA hval
  obtain ⟨v0, vs0, d0, ds0, p0, q0, hargs, rfl, rfl, h0, r0⟩ := trodAll_cons hA
  obtain ⟨v1, vs1, d1, ds1, p1, q1, rfl, rfl, rfl, h1, r1⟩ := trodAll_cons r0
  obtain ⟨rfl, rfl, rfl⟩ := trodAll_nil r1
  obtain rfl : args = #[v0, v1] := by cases args; simp_all
  obtain ⟨rfl, rfl⟩ := trodVars_none hV
  clear hA0 hval0
  simp only [List.append_nil] at hW'
  have l0 : ∀ x ∈ p0, x.block < W.heap.size := fun x hx => hW'.lt x (by simp [hx])
  have l1 : ∀ x ∈ p1, x.block < W.heap.size := fun x hx => hW'.lt x (by simp [hx])
  obtain ⟨s0, b0, m0, rfl, hB0, hY0, hm0, _, hn0⟩ := open_bytes (hval 0 22 v0 rfl rfl) h0
  obtain ⟨s1, o1, m1, rfl, hO1⟩ := open_ops (hval 1 23 v1 rfl rfl) h1
  refine (walk o1 s1 m1 b0 s0 m0 W hO1 hB0 hY0 hn0).mono fun e W' ⟨he, hb⟩ => ?_
  subst he
  exact ⟨_, rfl, post_low (pa := p0 ++ (p1 ++ ([]))) (pv := []) hW' (fun _ _ _ => (trodAll_cons_mk (shut_bool Try.underlying4 _) trodAll_mk0)) (fun sp hsp => (trodAll_cons_mk (trod_low laidOut (by kernel_rfl) (of_decide_eq_true (by kernel_rfl)) h0 hb l0 (fun x hx => hsp x (by simp [hx]))) (trodAll_cons_mk (trod_low laidOut (by kernel_rfl) (of_decide_eq_true (by kernel_rfl)) h1 hb l1 (fun x hx => hsp x (by simp [hx]))) trodAll_mk0))) (fun _ _ => rfl) (by simp) hb (ok_one (by kernel_rfl) rfl (okWide_bool_mk Try.underlying4 _))⟩

theorem over : Rows.bitioOwnsRow.holds Try.pinned (OpenSpec.ofChange Rows.bitioOwnsSpec) :=
  OpenClaim.holds_of_wide 3 Try.f3 rfl rfl rfl rfl rfl rfl rfl ⟨rfl, rfl, rfl, rfl, rfl⟩ rfl rfl rfl rfl rfl (by kernel_rfl) Try.func3 (by kernel_rfl)
    (of_decide_eq_true (by kernel_rfl)) (by unfold Func.isWrapper; first | (rw [if_pos (by decide +kernel)]; kernel_rfl) | (rw [if_neg (by decide +kernel)]; exact ⟨rfl, rfl⟩))
    (fun os started H enc _ => lifted os started H enc)

theorem proved : Rows.BitioOwnsSaid :=
  over
#print axioms proved
end Go.Proofs.Ytaddendclipkkaa.bitioOwns
