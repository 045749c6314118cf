/-
  For all lists of calls and all bytes the statement BitioReturns returns true; the arguments read afterwards as before.
  Conditions: none beyond those of the given statement.
-/
import Derived.Test.YtdhjmbjpigiadaaLawC
import Derived.Laws.AppendOwnNone
set_option maxRecDepth 100000
namespace Go.Proofs.Ytdhjmbjpigiadaa.bitioReturns
open Go.ChangeShapes Go.WideShapes Go.ChangeAt Go.RowKit Go.Joins Go.Deep

set_option maxRecDepth 100000 in
set_option maxHeartbeats 4000000 in
theorem walk (l : List (Int × Int × Int)) (s : Option Addr) (m : Nat) (mo : List Int) (u : Option Addr) (p : Nat) (w : World) (hO : HoldsO w s l) (hB : HoldsB w u mo) (hY : Bi.bytes mo) (hu : u = none → mo = [] ∧ p = 0) :
    Calls Try.prog 5 #[.slice s l.length m, .slice u mo.length p] w fun e w' => e = .returned (.bool true) ∧ Below w.heap.size w w' := by
  have hf := few_c l s m w hO
  cases hfb : fewO l with
  | false =>
    rw [hfb] at hf
    clear hfb
    go_enter Try.func5, Try.ntmps5
    go_wp2_with fail
    refine hf.mono ?_
    rintro e w1 ⟨rfl, hb1⟩
    go_wp2_with fail
    refine (example09_c _).mono ?_
    rintro e w2 ⟨rfl, hb2⟩
    go_wp2_with fail
    go_ret
    exact ⟨rfl, below_call hb1 hb2⟩
  | true =>
  by_cases hm100 : 100 < mo.length
  · rw [hfb] at hf
    have h6 : (100 : Int) < (mo.length : Int) := by omega
    clear hfb
    go_enter Try.func5, Try.ntmps5
    go_wp2_with fail
    refine hf.mono ?_
    rintro e w1 ⟨rfl, hb1⟩
    go_wp2_with fail
    refine (example09_c _).mono ?_
    rintro e w2 ⟨rfl, hb2⟩
    go_wp2_with fail
    go_ret
    exact ⟨rfl, below_call hb1 hb2⟩
  · rw [hfb] at hf
    have hm1 : mo.length ≤ 100 := by omega
    have hl200 : l.length ≤ 200 := by simp [fewO] at hfb; exact hfb.1
    have HF := Lib.hid (fun k => wrL_few hfb k)
    have HO := Lib.hid hO
    have HB := Lib.hid hB
    have HY := Lib.hid hY
    have HU := Lib.hid hu
    obtain ⟨iO, hiO, hzO, hzO1, hzO2⟩ := info_parts infoO
    clear hfb hO hm100 hB hY hu
    go_enter Try.func5, Try.ntmps5
    go_wp2_with fail
    refine hf.mono ?_
    rintro e w1 ⟨rfl, hb1⟩
    go_wp2_with fail
    refine (new_c _).mono ?_
    rintro e w2 ⟨a, rfl, hW2, hb2⟩
    have hI : Hid (Wg w a [] (.slice none 0 0) [] w2) := ⟨hW2.lower hb1.size, World.ownsRow_nil _ _ _ _, below_call hb1 hb2, fun q h => by simp at h, rfl⟩
    clear hW2 hb1 hb2 hf
    go_wp2_with fail
    go_loopw [6, 32] (fun g6 i wr => ∃ (k : Nat) (L : List Int) (G : List (Int × Int × Int)), k ≤ l.length ∧ i = .int .i64 (k : Int) ∧ Hid (Wg w a L g6 G wr) ∧ Hid (L = wrL (l.take k)) ∧ G.length ≤ k) (fun _ i _ => l.length - (intOf i).toNat)
    case atStart => exact ⟨0, [], [], Nat.zero_le _, rfl, hI, rfl, Nat.le_refl _⟩
    case round =>
      obtain ⟨k, L, G, hk, rfl, hT, hLk, hGk⟩ := hrel
      have hlen : L.length ≤ 82800 := by have := HF.out k; rw [← hLk.out] at this; exact this
      by_cases hlt : k < l.length
      · obtain ⟨bo, off, rfl, hr⟩ : ∃ b off, s = some ⟨b, off, none⟩ ∧ ∀ k (_ : k < l.length), OpAt wr b (off + k * 3) l[k] := by
          rcases HO.out.call hT.out.below with rfl | h
          · simp at hlt
          · exact h
        obtain ⟨c0, c1, c2⟩ := hr k hlt
        obtain ⟨q, hq⟩ : ∃ q, q = l[k] := ⟨_, rfl⟩
        obtain ⟨q0, q1, q2⟩ := q
        rw [← hq] at c0 c1 c2
        have hsn : Hid (wrL (l.take (k + 1)) = wrL (l.take k) ++ wrM q0 q1 q2) := by
          show _ = _
          rw [List.take_succ_eq_append_getElem hlt, wrL_snoc, ← hq]
        have hbits : Bi.bits L := by rw [hLk.out]; exact wrL_bits _
        have T0 : Wg w a L u6 G (wr.alloc (.cells #[.int .i64 q0, .int .i64 q1, .int .i64 q2] 30)) := hT.out.step ((Below.refl _ _).alloc (Nat.le_refl _) _)
        have hw0 := write_c _ _ a _ q0 q1 q2 T0.wr hbits (by omega)
        have HT0 := Lib.hid T0
        have HO0 : Hid (Blk (wr.alloc (.cells #[.int .i64 q0, .int .i64 q1, .int .i64 q2] 30)) wr.heap.size 30 #[.int .i64 q0, .int .i64 q1, .int .i64 q2]) := Blk.new wr _ _
        have hwsz : w.heap.size ≤ wr.heap.size := hT.out.below.size
        clear hr hq T0
        by_cases hq0 : q0 < 0
        · have hM := wrM_else (v := q1) (n := q2) (Or.inl hq0)
          have HM := Lib.hid hM
          clear hM hw0
          go_wp2_with fail
          go_roundw
          case rel => exact ⟨k + 1, L, G, by omega, by go_num, HT0, by show _ = _; rw [hsn.out, HM.out, List.append_nil]; exact hLk.out, by omega⟩
          case measure => simp [intOf]; omega
        by_cases hq3 : 3 < q0
        · have hM := wrM_else (v := q1) (n := q2) (Or.inr hq3)
          have HM := Lib.hid hM
          clear hM hw0
          go_wp2_with fail
          go_roundw
          case rel => exact ⟨k + 1, L, G, by omega, by go_num, HT0, by show _ = _; rw [hsn.out, HM.out, List.append_nil]; exact hLk.out, by omega⟩
          case measure => simp [intOf]; omega
        rcases wrE_cases q0 q1 q2 with hE | ⟨hE, hM⟩
        · have hgood : Hid (Good (q0, q1, q2)) := ⟨⟨by omega, by omega⟩, hE⟩
          rw [hE] at hw0
          clear hE
          go_wp2_with (first | (go_at_call 22; (with_reducible refine hw0.mono ?_); rintro e x1 ⟨rfl, hW1, hK1⟩; have ho1 := op_open (HO0.out.kp hK1 (HT0.out.wr.notop HO0.out)); have hx1 : w.heap.size ≤ x1.heap.size := (by have := hK1.size; simp at this; omega)) | (at_builtin; refine wpList_append_own_at _ rfl _ _ 22 rfl w.heap.size 30 iO _ 3 24 Try.underlying22 hiO hzO hzO1 hzO2 rfl (by decide) _ G.length (opC G) rfl (own_keep (own_keep HT0.out.own (fun g _ _ hB => hK1.block g hB.lt (HT0.out.wr.notop hB))) (fun g _ _ hB => Below.heap_alloc _ _ _ hB.lt)) ⟨x1.heap.size, 0, none⟩ 1 1 [.int .i64 q0, .int .i64 q1, .int .i64 q2] rfl rfl (one_op _ _ _ _ _) (oneOp _ _ _) (by unfold maxLen; omega) (by omega) (by simp; omega) ?_))
          intro v' w5 hown hgrow _ hat
          have T5 := HT0.out.push hgood.out hW1 hK1 hgrow (by simpa using hown)
          have HT5 := Lib.hid T5
          clear T5 hown hgrow hat hW1 hK1 hx1 ho1 c0 c1 c2 hw0
          go_wp2_with fail
          go_roundw
          case rel => exact ⟨k + 1, L ++ wrM q0 q1 q2, G ++ [(q0, q1, q2)], by omega, by go_num, HT5, by show _ = _; rw [hsn.out, ← hLk.out], by simp; omega⟩
          case measure => simp [intOf]; omega
        · rw [hE, hM, List.append_nil] at hw0
          have HM := Lib.hid hM
          clear hE hM
          go_wp2_with (first | (go_at_call 22; (with_reducible refine hw0.mono ?_); rintro e x1 ⟨rfl, hW1, hK1⟩))
          have HT5 := Lib.hid (HT0.out.write hW1 hK1 rfl)
          clear hW1 hK1 hw0 c0 c1 c2
          go_roundw
          case rel => exact ⟨k + 1, L, G, by omega, by go_num, HT5, by show _ = _; rw [hsn.out, HM.out, List.append_nil]; exact hLk.out, by omega⟩
          case measure => simp [intOf]; omega
      · obtain rfl : k = l.length := by omega
        cases u with
        | some ad =>
          have T0 := hT
          have hbits : Bi.bits L := by rw [hLk.out]; exact wrL_bits _
          have HG : Hid (L = wrL G) := T0.out.eq
          have HGG := Lib.hid T0.out.good
          obtain ⟨hGl, sg, mg, hgv, hOG⟩ := holdsO_own T0.out.own
          subst hgv
          have OW0 := Lib.hid T0.out.own
          obtain ⟨i0, hi, hz0, hz1, hz2⟩ := info_parts info8
          have hel := enc_le L
          clear hOG hGl
          go_wp2_with fail
          refine (bytes_c _ _ a L T0.out.wr (by omega)).mono ?_
          rintro e x1 ⟨g1, p1, rfl, hr1, _, hb1⟩
          have B1 := Lib.hid (below_call T0.out.below hb1)
          have OW1 : Hid (x1.ownsRow w.heap.size 30 3 (.slice sg G.length mg) G.length (opC G)) := own_keep OW0.out (fun g _ _ hB => hb1.block g hB.lt)
          have R1 := Lib.hid (holdsB_list (hr1.holds.call ((Below.refl x1.heap.size x1).alloc (Nat.le_refl _) (.cells #[] 5))))
          have HBG : Hid (Bi.Begins (Bi.enc L ++ mo) L) := begins_app hbits HY.out
          have HAL : Hid (alR (Bi.enc L ++ mo) (Bi.P L L.length) = (((Bi.enc L).length : Int), 0, 8 * (Bi.enc L).length) ∧ alR (Bi.enc L ++ mo) (8 * (Bi.enc L).length) = (((Bi.enc L).length : Int), 0, 8 * (Bi.enc L).length)) := Bi.align_at hbits HBG.out
          have hs1 := B1.out.size
          clear hb1 hr1 hT
          generalize Bi.enc L = E at *
          go_wp2_with (first | (at_builtin; refine wpList_append_own_at _ rfl _ _ 36 rfl w.heap.size 5 i0 (.int .u8 0) 1 1 Try.underlying36 hi hz0 hz1 hz2 rfl (by decide) _ 0 [] rfl (World.ownsRow_made x1 #[] 0 hs1 (by decide) (by simp)) ⟨g1, 0, none⟩ E.length E.length (E.map (Value.int .u8)) rfl (by simp) R1.out (one8 E) (by unfold maxLen; omega) (by omega) (by simp; omega) ?_))
          intro v3 w3 hown3 hgrow3 _ hat3
          have O3 : Hid (w3.ownsRow w.heap.size 5 1 v3 E.length (E.map (Value.int .u8))) := Lib.hid hown3
          have B3 : Hid (Below w.heap.size w w3) := (B1.out.alloc hs1 _).grown hgrow3 (by simp; omega) (fun k hk => by simp [Value.ownBlock] at hk; omega)
          have G3 : Hid (Below x1.heap.size x1 w3) := ((Below.refl _ _).alloc (Nat.le_refl _) _).grown hgrow3 (by simp) (fun k hk => by simp [Value.ownBlock] at hk; omega)
          clear hown3 hgrow3 hat3
          obtain ⟨_, s3, m3, rfl, _, _⟩ := HoldsB.of_own O3.out
          go_wp2_with (first | (at_builtin; refine wpList_append_own_at _ rfl _ _ 36 rfl w.heap.size 5 i0 (.int .u8 0) 1 1 Try.underlying36 hi hz0 hz1 hz2 rfl (by decide) _ E.length _ rfl O3.out ad mo.length p (mo.map (Value.int .u8)) rfl (by simp) (holdsB_list (HB.out.below B3.out (Nat.le_refl _))) (one8 mo) (by unfold maxLen; omega) (by omega) B3.out.size ?_))
          intro v4 w4 hown4 hgrow4 _ hat4
          have O4 : Hid (w4.ownsRow w.heap.size 5 1 v4 (E ++ mo).length ((E ++ mo).map (Value.int .u8))) := by show World.ownsRow _ _ _ _ _ _ _; rw [List.length_append, List.map_append]; exact hown4
          have B4 : Hid (Below w.heap.size w w4) := B3.out.grown hgrow4 B3.out.size (fun k hk => (O3.out.lt k hk).1)
          have hlen4 : (E ++ mo).length ≤ 1000000 := by rw [List.length_append]; omega
          have OW4 : Hid (w4.ownsRow w.heap.size 30 3 (.slice sg G.length mg) G.length (opC G)) := own_keep (own_keep OW1.out (fun g _ _ hB => G3.out.block g hB.lt)) (fun g cs _ hB => hgrow4.block g hB.lt (fun e => by obtain ⟨cs2, h5⟩ := own_blkO O3.out e.symm; exact Blk.ne hB h5 (by decide) rfl))
          have HOG4 : Hid (HoldsO w4 sg G) := by
            obtain ⟨_, s', m', he, hq⟩ := holdsO_own OW4.out
            cases he
            exact hq
          clear hown4 hgrow4 hat4
          obtain ⟨_, s4, m4, rfl, hH4, _, hn4⟩ := HoldsB.of_own O4.out
          have HH4 := Lib.hid hH4
          have HN4 := Lib.hid hn4
          clear hH4 hn4
          have hEL : E.length ≤ (E ++ mo).length := by rw [List.length_append]; omega
          generalize hbs : E ++ mo = bs at *
          clear hbs
          go_wp2_with fail
          refine (rnew_c w4 bs s4 m4 HH4.out HN4.out (by omega)).mono ?_
          rintro e w5 ⟨r, rfl, hR5, hb5⟩
          have HR5 : Hid (Rg w4 r bs (Bi.P L (wrL (G.take 0)).length) w5) := ⟨hR5, hb5⟩
          clear hR5 hb5
          have hbY : Bi.bytes bs := HBG.out.1
          have HBY := Lib.hid hbY
          have HBITS := Lib.hid hbits
          clear hbY hbits
          go_wp2_with fail
          go_loopw [65] (fun i wr => ∃ j : Nat, j ≤ G.length ∧ i = .int .i64 (j : Int) ∧ Hid (Rg w4 r bs (Bi.P L (wrL (G.take j)).length) wr)) (fun i _ => G.length - (intOf i).toNat)
          case atStart => exact ⟨0, Nat.zero_le _, rfl, HR5⟩
          case round =>
            obtain ⟨j, hj, rfl, hT2⟩ := hrel
            by_cases hlt2 : j < G.length
            · obtain ⟨bo, off, rfl, hr⟩ : ∃ b off, sg = some ⟨b, off, none⟩ ∧ ∀ k (_ : k < G.length), OpAt wr b (off + k * 3) G[k] := by
                rcases HOG4.out.call hT2.out.below with rfl | h
                · simp at hlt2
                · exact h
              obtain ⟨c0, c1, c2⟩ := hr j hlt2
              clear hr
              obtain ⟨q, hq⟩ : ∃ q, q = G[j] := ⟨_, rfl⟩
              have hgd := HGG.out G[j] (List.getElem_mem _)
              obtain ⟨e1, e2⟩ := good_at HG.out j hlt2
              rw [← hq] at c0 c1 c2 hgd e1 e2
              obtain ⟨q0, q1, q2⟩ := q
              have hrd := op_at HBITS.out HBG.out (wrL (G.take j)) (wrL (G.drop (j + 1))) (q0, q1, q2) hgd e1
              have HE3 : Hid ((wrL (G.take j)).length + (wrM q0 q1 q2).length = (wrL (G.take (j + 1))).length) := by
                show _ = _
                rw [e2, List.length_append]
              have hle : (wrL (G.take j)).length ≤ L.length := by
                have h := congrArg List.length e1
                rw [List.length_append, List.length_append] at h
                omega
              have ht := P_le HBITS.out HBG.out hle
              rw [HE3.out] at hrd
              clear e1 e2 hq hgd hle HE3
              have HTT := Lib.hid ht
              clear ht
              obtain ⟨u, hu⟩ : ∃ u, u = Bi.P L (wrL (G.take j)).length := ⟨_, rfl⟩
              rw [← hu] at hrd hT2 HTT
              obtain ⟨u', hu'⟩ : ∃ u', u' = Bi.P L (wrL (G.take (j + 1))).length := ⟨_, rfl⟩
              rw [← hu'] at hrd
              have HU' := Lib.hid hu'
              clear hu hu'
              have T1 : Rg w4 r bs u (wr.alloc (.cells #[.int .i64 q0, .int .i64 q1, .int .i64 q2] 30)) := hT2.out.step ((Below.refl _ _).alloc (Nat.le_refl _) _)
              have HO1 : Hid (Blk (wr.alloc (.cells #[.int .i64 q0, .int .i64 q1, .int .i64 q2] 30)) wr.heap.size 30 #[.int .i64 q0, .int .i64 q1, .int .i64 q2]) := Blk.new wr _ _
              by_cases h3 : q0 = 3
              · subst h3
                rw [if_pos rfl] at hrd
                have T2 : Rg w4 r bs u ((wr.alloc (.cells #[.int .i64 3, .int .i64 q1, .int .i64 q2] 30)).alloc (.cells #[.int .i64 3, .int .i64 q1, .int .i64 q1] 30)) := T1.step ((Below.refl _ _).alloc (Nat.le_refl _) _)
                have HO2 : Hid (Blk ((wr.alloc (.cells #[.int .i64 3, .int .i64 q1, .int .i64 q2] 30)).alloc (.cells #[.int .i64 3, .int .i64 q1, .int .i64 q1] 30)) wr.heap.size 30 #[.int .i64 3, .int .i64 q1, .int .i64 q2]) := HO1.out.alloc _
                have hr0 := read_c _ _ r bs u 3 q1 q1 T2.rd HTT.out HBY.out (by omega)
                rw [hrd] at hr0
                dsimp only at hr0
                have HT2 := Lib.hid T2
                clear T1 T2 hT2 hrd
                go_wp2_with (first | (go_at_call 31; (with_reducible refine hr0.mono ?_); rintro e x1 ⟨rfl, hR1, hK1⟩; have ho1 := op_open (HO2.out.kp hK1 (HT2.out.rd.notop HO2.out)); have T3 := Lib.hid (HT2.out.read hR1 hK1); clear hr0 hR1 hK1))
                go_roundw
                case rel => exact ⟨j + 1, by omega, by go_num, by rw [← HU'.out]; exact T3⟩
                case measure => simp [intOf]; omega
              · rw [if_neg h3] at hrd
                have T2 : Rg w4 r bs u ((wr.alloc (.cells #[.int .i64 q0, .int .i64 q1, .int .i64 q2] 30)).alloc (.cells #[.int .i64 q0, .int .i64 q1, .int .i64 q2] 30)) := T1.step ((Below.refl _ _).alloc (Nat.le_refl _) _)
                have HO2 : Hid (Blk ((wr.alloc (.cells #[.int .i64 q0, .int .i64 q1, .int .i64 q2] 30)).alloc (.cells #[.int .i64 q0, .int .i64 q1, .int .i64 q2] 30)) wr.heap.size 30 #[.int .i64 q0, .int .i64 q1, .int .i64 q2]) := HO1.out.alloc _
                have hr0 := read_c _ _ r bs u q0 q1 q2 T2.rd HTT.out HBY.out (by omega)
                rw [hrd] at hr0
                dsimp only at hr0
                have HT2 := Lib.hid T2
                clear T1 T2 hT2 hrd
                go_wp2_with (first | (go_at_call 31; (with_reducible refine hr0.mono ?_); rintro e x1 ⟨rfl, hR1, hK1⟩; have ho1 := op_open (HO2.out.kp hK1 (HT2.out.rd.notop HO2.out)); have T3 := Lib.hid (HT2.out.read hR1 hK1); clear hr0 hR1 hK1))
                go_roundw
                case rel => exact ⟨j + 1, by omega, by go_num, by rw [← HU'.out]; exact T3⟩
                case measure => simp [intOf]; omega
            · obtain rfl : j = G.length := by omega
              have HT2 : Hid (Rg w4 r bs (Bi.P L L.length) wr) := by
                have h := hT2.out
                rw [List.take_length, ← HG.out] at h
                exact h
              have ha := align_c _ _ r bs (Bi.P L L.length) HT2.out.rd (P_le HBITS.out HBG.out (Nat.le_refl _)) HBY.out (by omega)
              rw [HAL.out.1] at ha
              dsimp only at ha
              clear hT2
              go_wp2_with fail
              refine ha.mono ?_
              rintro e x1 ⟨rfl, hR1, hK1⟩
              have HT3 := Lib.hid (HT2.out.read hR1 hK1)
              clear ha hR1 hK1
              have ha := align_c _ _ r bs (8 * E.length) HT3.out.rd (by omega) HBY.out (by omega)
              rw [HAL.out.2] at ha
              dsimp only at ha
              go_wp2_with fail
              refine ha.mono ?_
              rintro e x2 ⟨rfl, hR2, hK2⟩
              have HT4 := Lib.hid (HT3.out.read hR2 hK2)
              clear ha hR2 hK2
              go_wp2_with fail
              refine (example09_c _).mono ?_
              rintro e x5 ⟨rfl, hb5⟩
              go_wp2_with fail
              go_ret
              exact ⟨rfl, below_call (B4.out.trans (HT4.out.below.mono B4.out.size)) hb5⟩
        | none =>
          obtain ⟨rfl, rfl⟩ := HU.out rfl
          have T0 := hT
          have hbits : Bi.bits L := by rw [hLk.out]; exact wrL_bits _
          have HG : Hid (L = wrL G) := T0.out.eq
          have HGG := Lib.hid T0.out.good
          obtain ⟨hGl, sg, mg, hgv, hOG⟩ := holdsO_own T0.out.own
          subst hgv
          have OW0 := Lib.hid T0.out.own
          obtain ⟨i0, hi, hz0, hz1, hz2⟩ := info_parts info8
          have hel := enc_le L
          clear hOG hGl
          go_wp2_with fail
          refine (bytes_c _ _ a L T0.out.wr (by omega)).mono ?_
          rintro e x1 ⟨g1, p1, rfl, hr1, _, hb1⟩
          have B1 := Lib.hid (below_call T0.out.below hb1)
          have OW1 : Hid (x1.ownsRow w.heap.size 30 3 (.slice sg G.length mg) G.length (opC G)) := own_keep OW0.out (fun g _ _ hB => hb1.block g hB.lt)
          have R1 := Lib.hid (holdsB_list (hr1.holds.call ((Below.refl x1.heap.size x1).alloc (Nat.le_refl _) (.cells #[] 5))))
          have HBG : Hid (Bi.Begins (Bi.enc L) L) := by have h := begins_app hbits HY.out; rw [List.append_nil] at h; exact h
          have HAL : Hid (alR (Bi.enc L) (Bi.P L L.length) = (((Bi.enc L).length : Int), 0, 8 * (Bi.enc L).length) ∧ alR (Bi.enc L) (8 * (Bi.enc L).length) = (((Bi.enc L).length : Int), 0, 8 * (Bi.enc L).length)) := Bi.align_at hbits HBG.out
          have hs1 := B1.out.size
          clear hb1 hr1 hT
          generalize Bi.enc L = E at *
          go_wp2_with (first | (at_builtin; refine wpList_append_own_at _ rfl _ _ 36 rfl w.heap.size 5 i0 (.int .u8 0) 1 1 Try.underlying36 hi hz0 hz1 hz2 rfl (by decide) _ 0 [] rfl (World.ownsRow_made x1 #[] 0 hs1 (by decide) (by simp)) ⟨g1, 0, none⟩ E.length E.length (E.map (Value.int .u8)) rfl (by simp) R1.out (one8 E) (by unfold maxLen; omega) (by omega) (by simp; omega) ?_))
          intro v3 w3 hown3 hgrow3 _ hat3
          have O3 : Hid (w3.ownsRow w.heap.size 5 1 v3 E.length (E.map (Value.int .u8))) := Lib.hid hown3
          have B3 : Hid (Below w.heap.size w w3) := (B1.out.alloc hs1 _).grown hgrow3 (by simp; omega) (fun k hk => by simp [Value.ownBlock] at hk; omega)
          have G3 : Hid (Below x1.heap.size x1 w3) := ((Below.refl _ _).alloc (Nat.le_refl _) _).grown hgrow3 (by simp) (fun k hk => by simp [Value.ownBlock] at hk; omega)
          clear hown3 hgrow3 hat3
          have OW4 : Hid (w3.ownsRow w.heap.size 30 3 (.slice sg G.length mg) G.length (opC G)) := own_keep OW1.out (fun g _ _ hB => G3.out.block g hB.lt)
          have HOG4 : Hid (HoldsO w3 sg G) := by
            obtain ⟨_, s', m', he, hq⟩ := holdsO_own OW4.out
            cases he
            exact hq
          have hlen4 : E.length ≤ 1000000 := by omega
          obtain ⟨_, s3, m3, rfl, hH4, _, hn4⟩ := HoldsB.of_own O3.out
          have HH4 := Lib.hid hH4
          have HN4 := Lib.hid hn4
          clear hH4 hn4
          go_wp2_with (first | (at_builtin; refine wpList_append_own_none rfl _ _ 36 rfl w.heap.size 5 i0 1 Try.underlying36 hi _ E.length _ rfl O3.out rfl ?_))
          go_wp2_with fail
          refine (rnew_c w3 E s3 m3 HH4.out HN4.out (by omega)).mono ?_
          rintro e w5 ⟨r, rfl, hR5, hb5⟩
          have HR5 : Hid (Rg w3 r E (Bi.P L (wrL (G.take 0)).length) w5) := ⟨hR5, hb5⟩
          clear hR5 hb5
          have hbY : Bi.bytes E := HBG.out.1
          have HBY := Lib.hid hbY
          have HBITS := Lib.hid hbits
          clear hbY hbits
          go_wp2_with fail
          go_loopw [65] (fun i wr => ∃ j : Nat, j ≤ G.length ∧ i = .int .i64 (j : Int) ∧ Hid (Rg w3 r E (Bi.P L (wrL (G.take j)).length) wr)) (fun i _ => G.length - (intOf i).toNat)
          case atStart => exact ⟨0, Nat.zero_le _, rfl, HR5⟩
          case round =>
            obtain ⟨j, hj, rfl, hT2⟩ := hrel
            by_cases hlt2 : j < G.length
            · obtain ⟨bo, off, rfl, hr⟩ : ∃ b off, sg = some ⟨b, off, none⟩ ∧ ∀ k (_ : k < G.length), OpAt wr b (off + k * 3) G[k] := by
                rcases HOG4.out.call hT2.out.below with rfl | h
                · simp at hlt2
                · exact h
              obtain ⟨c0, c1, c2⟩ := hr j hlt2
              clear hr
              obtain ⟨q, hq⟩ : ∃ q, q = G[j] := ⟨_, rfl⟩
              have hgd := HGG.out G[j] (List.getElem_mem _)
              obtain ⟨e1, e2⟩ := good_at HG.out j hlt2
              rw [← hq] at c0 c1 c2 hgd e1 e2
              obtain ⟨q0, q1, q2⟩ := q
              have hrd := op_at HBITS.out HBG.out (wrL (G.take j)) (wrL (G.drop (j + 1))) (q0, q1, q2) hgd e1
              have HE3 : Hid ((wrL (G.take j)).length + (wrM q0 q1 q2).length = (wrL (G.take (j + 1))).length) := by
                show _ = _
                rw [e2, List.length_append]
              have hle : (wrL (G.take j)).length ≤ L.length := by
                have h := congrArg List.length e1
                rw [List.length_append, List.length_append] at h
                omega
              have ht := P_le HBITS.out HBG.out hle
              rw [HE3.out] at hrd
              clear e1 e2 hq hgd hle HE3
              have HTT := Lib.hid ht
              clear ht
              obtain ⟨u, hu⟩ : ∃ u, u = Bi.P L (wrL (G.take j)).length := ⟨_, rfl⟩
              rw [← hu] at hrd hT2 HTT
              obtain ⟨u', hu'⟩ : ∃ u', u' = Bi.P L (wrL (G.take (j + 1))).length := ⟨_, rfl⟩
              rw [← hu'] at hrd
              have HU' := Lib.hid hu'
              clear hu hu'
              have T1 : Rg w3 r E u (wr.alloc (.cells #[.int .i64 q0, .int .i64 q1, .int .i64 q2] 30)) := hT2.out.step ((Below.refl _ _).alloc (Nat.le_refl _) _)
              have HO1 : Hid (Blk (wr.alloc (.cells #[.int .i64 q0, .int .i64 q1, .int .i64 q2] 30)) wr.heap.size 30 #[.int .i64 q0, .int .i64 q1, .int .i64 q2]) := Blk.new wr _ _
              by_cases h3 : q0 = 3
              · subst h3
                rw [if_pos rfl] at hrd
                have T2 : Rg w3 r E u ((wr.alloc (.cells #[.int .i64 3, .int .i64 q1, .int .i64 q2] 30)).alloc (.cells #[.int .i64 3, .int .i64 q1, .int .i64 q1] 30)) := T1.step ((Below.refl _ _).alloc (Nat.le_refl _) _)
                have HO2 : Hid (Blk ((wr.alloc (.cells #[.int .i64 3, .int .i64 q1, .int .i64 q2] 30)).alloc (.cells #[.int .i64 3, .int .i64 q1, .int .i64 q1] 30)) wr.heap.size 30 #[.int .i64 3, .int .i64 q1, .int .i64 q2]) := HO1.out.alloc _
                have hr0 := read_c _ _ r E u 3 q1 q1 T2.rd HTT.out HBY.out (by omega)
                rw [hrd] at hr0
                dsimp only at hr0
                have HT2 := Lib.hid T2
                clear T1 T2 hT2 hrd
                go_wp2_with (first | (go_at_call 31; (with_reducible refine hr0.mono ?_); rintro e x1 ⟨rfl, hR1, hK1⟩; have ho1 := op_open (HO2.out.kp hK1 (HT2.out.rd.notop HO2.out)); have T3 := Lib.hid (HT2.out.read hR1 hK1); clear hr0 hR1 hK1))
                go_roundw
                case rel => exact ⟨j + 1, by omega, by go_num, by rw [← HU'.out]; exact T3⟩
                case measure => simp [intOf]; omega
              · rw [if_neg h3] at hrd
                have T2 : Rg w3 r E u ((wr.alloc (.cells #[.int .i64 q0, .int .i64 q1, .int .i64 q2] 30)).alloc (.cells #[.int .i64 q0, .int .i64 q1, .int .i64 q2] 30)) := T1.step ((Below.refl _ _).alloc (Nat.le_refl _) _)
                have HO2 : Hid (Blk ((wr.alloc (.cells #[.int .i64 q0, .int .i64 q1, .int .i64 q2] 30)).alloc (.cells #[.int .i64 q0, .int .i64 q1, .int .i64 q2] 30)) wr.heap.size 30 #[.int .i64 q0, .int .i64 q1, .int .i64 q2]) := HO1.out.alloc _
                have hr0 := read_c _ _ r E u q0 q1 q2 T2.rd HTT.out HBY.out (by omega)
                rw [hrd] at hr0
                dsimp only at hr0
                have HT2 := Lib.hid T2
                clear T1 T2 hT2 hrd
                go_wp2_with (first | (go_at_call 31; (with_reducible refine hr0.mono ?_); rintro e x1 ⟨rfl, hR1, hK1⟩; have ho1 := op_open (HO2.out.kp hK1 (HT2.out.rd.notop HO2.out)); have T3 := Lib.hid (HT2.out.read hR1 hK1); clear hr0 hR1 hK1))
                go_roundw
                case rel => exact ⟨j + 1, by omega, by go_num, by rw [← HU'.out]; exact T3⟩
                case measure => simp [intOf]; omega
            · obtain rfl : j = G.length := by omega
              have HT2 : Hid (Rg w3 r E (Bi.P L L.length) wr) := by
                have h := hT2.out
                rw [List.take_length, ← HG.out] at h
                exact h
              have ha := align_c _ _ r E (Bi.P L L.length) HT2.out.rd (P_le HBITS.out HBG.out (Nat.le_refl _)) HBY.out (by omega)
              rw [HAL.out.1] at ha
              dsimp only at ha
              clear hT2
              go_wp2_with fail
              refine ha.mono ?_
              rintro e x1 ⟨rfl, hR1, hK1⟩
              have HT3 := Lib.hid (HT2.out.read hR1 hK1)
              clear ha hR1 hK1
              have ha := align_c _ _ r E (8 * E.length) HT3.out.rd (by omega) HBY.out (by omega)
              rw [HAL.out.2] at ha
              dsimp only at ha
              go_wp2_with fail
              refine ha.mono ?_
              rintro e x2 ⟨rfl, hR2, hK2⟩
              have HT4 := Lib.hid (HT3.out.read hR2 hK2)
              clear ha hR2 hK2
              go_wp2_with fail
              refine (example09_c _).mono ?_
              rintro e x5 ⟨rfl, hb5⟩
              go_wp2_with fail
              go_ret
              exact ⟨rfl, below_call (B3.out.trans (HT4.out.below.mono B3.out.size)) hb5⟩

set_option maxRecDepth 100000 in
theorem lifted (os : Os) (started : os.Started) (H : Type) (enc : TypeId × Value → H) :
    ReturnsInHanded {} Try.checked os 5 .any (Rows.bitioReturnsSpec.pre6 enc Try.prog Try.f5 Rows.bitioReturnsRow.domain false) (Rows.bitioReturnsSpec.post enc Try.prog Try.f5 false true false false) := by
  refine returnsInHanded_of_change (C := Try.checked) own started (by kernel_rfl) Try.func5
    (ChangeSpec.witness6 (enc := enc) (C := Try.checked) false ⟨#[], #[.slice none 0 0, .slice none 0 0], []⟩ 8 (by kernel_rfl) (by kernel_rfl) (by kernel_rfl) (by kernel_rfl)) ?_
  intro W base args ds gs before hval0 hW _ _
  have hval : ∀ (j : Nat) t v, Try.f5.params[j]? = some t → args[j]? = some v → Value.okWide Try.prog W .any base t v := hval0
  have hW' := hW
  obtain ⟨p, q, hA0, hV, rfl, _, _⟩ := hW
  have hA : DataW.TrodAll enc Try.prog W 0 (fun _ => true) true Try.f5.params.toList args.toList ds p := hA0
  rw [Try.params5] at hA hval
  obtain ⟨v0, vs0, d0, ds0, p0, q0, hargs, rfl, rfl, h0, r0⟩ := trodAll_cons hA
  obtain ⟨v1, vs1, d1, ds1, p1, q1, rfl, rfl, rfl, h1, r1⟩ := trodAll_cons r0
  obtain ⟨rfl, rfl, rfl⟩ := trodAll_nil r1
  obtain rfl : args = #[v0, v1] := by cases args; simp_all
  obtain ⟨rfl, rfl⟩ := trodVars_none hV
  clear hA0 hval0
  simp only [List.append_nil] at hW'
  have l0 : ∀ x ∈ p0, x.block < W.heap.size := fun x hx => hW'.lt x (by simp [hx])
  have l1 : ∀ x ∈ p1, x.block < W.heap.size := fun x hx => hW'.lt x (by simp [hx])
  obtain ⟨s0, o0, m0, rfl, hO0⟩ := open_ops (hval 0 22 v0 rfl rfl) h0
  obtain ⟨s1, b1, m1, rfl, hB1, hY1, hm1, _, hn1⟩ := open_bytes (hval 1 36 v1 rfl rfl) h1
  refine (walk o0 s0 m0 b1 s1 m1 W hO0 hB1 hY1 hn1).mono fun e W' ⟨he, hb⟩ => ?_
  subst he
  exact ⟨_, rfl, post_low (pa := p0 ++ (p1 ++ ([]))) (pv := []) hW' (fun _ _ _ => (trodAll_cons_mk (shut_bool Try.underlying4 _) trodAll_mk0)) (fun sp hsp => (trodAll_cons_mk (trod_low laidOut (by kernel_rfl) (of_decide_eq_true (by kernel_rfl)) h0 hb l0 (fun x hx => hsp x (by simp [hx]))) (trodAll_cons_mk (trod_low laidOut (by kernel_rfl) (of_decide_eq_true (by kernel_rfl)) h1 hb l1 (fun x hx => hsp x (by simp [hx]))) trodAll_mk0))) (fun _ _ => rfl) (by simp) hb (ok_one (by kernel_rfl) rfl (okWide_bool_mk Try.underlying4 _))⟩

theorem over : Rows.bitioReturnsRow.holds Try.pinned (OpenSpec.ofChange Rows.bitioReturnsSpec) :=
  OpenClaim.holds_of_wide 5 Try.f5 rfl rfl rfl rfl rfl rfl rfl ⟨rfl, rfl, rfl, rfl, rfl⟩ rfl rfl rfl rfl rfl (by kernel_rfl) Try.func5 (by kernel_rfl)
    (of_decide_eq_true (by kernel_rfl)) (by unfold Func.isWrapper; first | (rw [if_pos (by decide +kernel)]; kernel_rfl) | (rw [if_neg (by decide +kernel)]; exact ⟨rfl, rfl⟩))
    (fun os started H enc _ => lifted os started H enc)

theorem proved : Rows.BitioReturnsSaid :=
  over
#print axioms proved
end Go.Proofs.Ytdhjmbjpigiadaa.bitioReturns
