/-
  For all integers and bytes the statement RawbitsRestores returns true; the arguments read afterwards as before.
  Conditions: none beyond those of the given statement (the listed variables are tied by the card).
-/
import Derived.Test.YtbaappodeicomaaDoorTa
import Derived.Test.YtbaappodeicomaaDoorTg
import Derived.Test.YtbaappodeicomaaDoorFrameP
import Derived.Test.YtbaappodeicomaaDoorTie
import Derived.Test.YtbaappodeicomaaDoorCards
import Derived.LaidMore
import Derived.Lay
import Derived.SevenTiedAt
import Derived.Stop.Joined
set_option maxRecDepth 100000
namespace Go.Proofs.YtbaappodeicomaaDoor.rawbitsRestores
open Go.ChangeShapes Go.WideShapes Go.ChangeAt Go.RowKit Go.Joins Go.Deep

theorem com_bits {l : List Int} (h : Pk.bits l) : Pk.bits (l.map fun x => 1 - x) := by
  intro x hx
  obtain ⟨y, hy, rfl⟩ := List.mem_map.1 hx
  have := h y hy
  unfold Pk.bit at *; omega
theorem putL_snoc {l : List Int} {b : Int} (h : Pk.bit b) : putL l b = l ++ [b] ∧ putE b = 0 := by
  unfold putL putE Pk.bit at *
  rw [if_pos h, if_pos h]; exact ⟨rfl, rfl⟩
theorem holdsB_far {w w1 : World} {s : Option Addr} {bs : List Int} (h : HoldsB w s bs) (hs : ∀ p, s = some p → w1.heap[p.block]? = w.heap[p.block]?) : HoldsB w1 s bs := by
  rcases h with h | ⟨b, off, rfl, hr⟩
  · exact .inl h
  · exact .inr ⟨b, off, rfl, fun k hk => (World.cell?_of_block (w := w) (a := ⟨b, off + k, none⟩) (hs ⟨b, off, none⟩ rfl)).trans (hr k hk)⟩
/-- The first bytes, and any others behind them, hold the first bits. -/
theorem prefix_bits {l o : List Int} (h : Pk.bits l) {n : Nat} (hn : n ≤ l.length) (hs : Pk.nb n < (Pk.seg l).length) : ∀ i (_ : i < (l.take n).length), Pk.bitAt ((Pk.seg l).take (Pk.nb n) ++ o) i = (l.take n)[i] := by
  intro i hi
  have hi' : i < n := by simpa using Nat.lt_of_lt_of_le hi (List.length_take_le _ _)
  have h8 : i / 8 < Pk.nb n := by unfold Pk.nb; omega
  have e : ((Pk.seg l).take (Pk.nb n) ++ o).getD (i / 8) 0 = (Pk.seg l).getD (i / 8) 0 := by
    rw [List.getD_eq_getElem?_getD, List.getD_eq_getElem?_getD, List.getElem?_append_left (by simp; omega), List.getElem?_take_of_lt h8]
  rw [Pk.bit_of_byte e, Pk.seg_bit h, List.getElem_take, List.getD_eq_getElem?_getD, List.getElem?_eq_getElem (by omega)]
  rfl
theorem gets_pre {W4 : World} {u : Option Addr} {S l ob : List Int} {N : Nat} (hb : Pk.bits l) (hS : S = Pk.seg l) (hN : N ≤ l.length) (hs : Pk.nb N < S.length) (hY : Am.bytes S) (hO : Am.bytes ob) (hI : HoldsI W4 u l) (hl : l.length ≤ 2000) (hob : ob.length ≤ 300) (hnb : Pk.nb N ≤ 251) (p : Nat) :
    ∀ x, Below W4.heap.size W4 x → ∀ s' m', HoldsB x s' (S.take (Pk.nb N) ++ ob) → (s' = none → (S.take (Pk.nb N) ++ ob) = [] ∧ m' = 0) →
      Calls Tryd.prog 60 #[.slice s' (Pk.nb N + ob.length) m', .slice u N p, .int .i64 0] x fun e w' => e = .returned (.bool true) ∧ Below x.heap.size x w' := by
  intro x hx s' m' h1 h2
  subst hS
  have e1 : ((Pk.seg l).take (Pk.nb N) ++ ob).length = Pk.nb N + ob.length := by rw [List.length_append, List.length_take]; omega
  have e2 : (l.take N).length = N := by simp; omega
  have hIx : HoldsI x u (l.take N) := by
    rcases hI.call hx with rfl | ⟨b, off, rfl, hr⟩
    · exact .inl (by simp)
    · exact .inr ⟨b, off, rfl, fun k hk => by
        have hk' : k < l.length := by simp at hk; omega
        rw [hr k hk']; simp⟩
  have := gets_c x _ s' m' h1 h2 (Am.bytes_app (Am.bytes_take hY _) hO) (by omega) (l.take N) u p hIx (by omega) 0 (by omega) (prefix_bits hb hN hs) (fun j h => by omega)
  rw [e1, e2] at this
  exact this
theorem step_append_none {P : Program} {ops : Array Oper} {o : Oper} {act : Act} {w : World} {K : Act → World → Prop} {Q : Exit → Act → World → Prop} {E : Prop} (hgd : o.guard = none) (s x : Operand) (t : TypeId)
    (ho : o.op = .call { callee := .builtin .append, args := #[s, x], argTypes := #[t, t] })
    (base : Nat) (e : TypeId) (i : TypeInfo) (size : Nat) (ht : P.underlying t = some (.slice e)) (hi : P.info? e = some i)
    (v : Value) (n : Nat) (xs : List Value) (hs : act.eval s = v) (hown : w.ownsRow base e size v n xs) (hx : act.eval x = .slice none 0 0)
    (h : K (act.put o.dst v) w) : if Region.wanted o (yielded ops act.tmps) = true then Oper.wp P o act w K Q else E := by
  have hw : Region.wanted o (yielded ops act.tmps) = true := by simp [Region.wanted, hgd]
  rw [if_pos hw]
  have hrun := run_append_owned_none (P := P) (w := w) base t o.type e i size ht hi v n xs hown
  unfold Oper.wp
  simp [execOp, ho, resolve, invoke, builtin, hs, hx, hrun, Result.andThen]
  exact h
set_option maxHeartbeats 8000000 in
theorem walk (l : List Int) (u : Option Addr) (p : Nat) (n : Int) (ob : List Int) (so : Option Addr) (mo : Nat) (w : World) (hI : HoldsI w u l) (hp : l.length ≤ p) (hO : HoldsB w so ob) (hY : Am.bytes ob) (hn0 : so = none → ob = [] ∧ mo = 0) :
    Calls Tryd.prog 13 #[.slice u l.length p, .int .i64 n, .slice so ob.length mo] w fun e w' => e = .returned (.bool true) ∧ Below w.heap.size w w' := by
  have hbt := bits12_c l u p w hI
  cases hbb : bitB l with
  | false =>
    rw [hbb] at hbt
    clear hbb
    go_enter Tryd.func13, Tryd.ntmps13
    go_wp2_with (first | (go_at_call 59; (with_reducible refine hbt.mono ?_); rintro e wn ⟨rfl, rfl⟩))
    refine (awake12_c _).mono ?_
    rintro e w2 ⟨rfl, hb2⟩
    go_wp2_with fail
    go_ret
    exact ⟨rfl, hb2⟩
  | true =>
  rw [hbb] at hbt
  obtain ⟨hl2, hbits⟩ := (bitB_iff l).1 hbb
  by_cases h0 : n < 0
  · clear hbb hbits
    go_enter Tryd.func13, Tryd.ntmps13
    go_wp2_with (first | (go_at_call 59; (with_reducible refine hbt.mono ?_); rintro e wn ⟨rfl, rfl⟩))
    refine (awake12_c _).mono ?_
    rintro e w2 ⟨rfl, hb2⟩
    go_wp2_with fail
    go_ret
    exact ⟨rfl, hb2⟩
  by_cases h1 : (l.length : Int) < n
  · clear hbb hbits
    go_enter Tryd.func13, Tryd.ntmps13
    go_wp2_with (first | (go_at_call 59; (with_reducible refine hbt.mono ?_); rintro e wn ⟨rfl, rfl⟩))
    refine (awake12_c _).mono ?_
    rintro e w2 ⟨rfl, hb2⟩
    go_wp2_with fail
    go_ret
    exact ⟨rfl, hb2⟩
  by_cases h2 : 300 < ob.length
  · have h3 : (300 : Int) < (ob.length : Int) := by omega
    clear hbb hbits
    go_enter Tryd.func13, Tryd.ntmps13
    go_wp2_with (first | (go_at_call 59; (with_reducible refine hbt.mono ?_); rintro e wn ⟨rfl, rfl⟩))
    refine (awake12_c _).mono ?_
    rintro e w2 ⟨rfl, hb2⟩
    go_wp2_with fail
    go_ret
    exact ⟨rfl, hb2⟩
  obtain ⟨N, rfl⟩ : ∃ N : Nat, n = N := ⟨n.toNat, by omega⟩
  have hN : N ≤ l.length := by omega
  have hob : ob.length ≤ 300 := by omega
  have HI := Lib.hid hI
  have HO := Lib.hid hO
  have HY := Lib.hid hY
  have HN := Lib.hid hn0
  have HB := Lib.hid hbits
  clear hI hO hY hn0 hbits hbb h0 h1 h2
  go_enter Tryd.func13, Tryd.ntmps13
  go_wp2_with (first | (go_at_call 59; (with_reducible refine hbt.mono ?_); rintro e wn ⟨rfl, rfl⟩))
  refine (wnew_c _).mono ?_
  rintro e w2 ⟨a, rfl, hW2, hb2⟩
  have hI0 : Hid (Rw w2 w.heap.size a [] ∧ Below w.heap.size w w2) := ⟨hW2, hb2⟩
  clear hW2 hb2 hbt
  go_wp2_with fail
  go_loopw [8, 38] (fun z i wr => ∃ (k Z : Nat), k ≤ l.length ∧ i = .int .i64 (k : Int) ∧ z = .int .i64 (Z : Int) ∧ Hid ((N < k → Z = Pk.nb N) ∧ Rw wr w.heap.size a (l.take k) ∧ Below w.heap.size w wr)) (fun _ i _ => l.length - (intOf i).toNat)
  case atStart => exact ⟨0, 0, Nat.zero_le _, rfl, rfl, fun h => by omega, hI0⟩
  case round =>
    obtain ⟨k, Z, hk, rfl, rfl, hT⟩ := hrel
    have hlk : (l.take k).length = k := by simp; omega
    by_cases hlt : k < l.length
    · obtain ⟨b, off, rfl, hc⟩ := (HI.out.call hT.out.2.2).at hlt
      have hsn : l.take (k + 1) = l.take k ++ [l[k]] := by rw [List.take_succ_eq_append_getElem hlt]
      have hbk := HB.out _ (List.getElem_mem hlt)
      have hput := put_c _ _ a (l.take k) l[k] hT.out.2.1 (Pk.bits_take HB.out k) (by omega)
      rw [(putL_snoc (l := l.take k) hbk).1, (putL_snoc (l := []) hbk).2, ← hsn] at hput
      have hsz := wsize_c _ _ a (l.take k) hT.out.2.1 (by omega)
      rw [hlk] at hsz
      have HLK := Lib.hid hlk
      clear hsn hlk hbk
      generalize l[k] = x at *
      by_cases hkn : k = N
      · subst hkn
        go_wp2_with (first | (go_at_call 51; (with_reducible refine hsz.mono ?_); rintro e wn ⟨rfl, rfl⟩) | (go_at_call 49; (with_reducible refine hput.mono ?_); rintro e x1 ⟨rfl, hR1, hK1⟩))
        go_roundw
        case rel => exact ⟨k + 1, Pk.nb k, by omega, by go_num, rfl, fun _ => rfl, hR1, hT.out.2.2.trans (hT.out.2.1.out hK1)⟩
        case measure => simp [intOf]; omega
      · have hkb : ((k : Int) == (N : Int)) = false := beq_eq_false_iff_ne.2 (by omega)
        go_wp2_with (first | (go_at_call 49; (with_reducible refine hput.mono ?_); rintro e x1 ⟨rfl, hR1, hK1⟩))
        go_roundw
        case rel => exact ⟨k + 1, Z, by omega, by go_num, rfl, fun h => hT.out.1 (by omega), hR1, hT.out.2.2.trans (hT.out.2.1.out hK1)⟩
        case measure => simp [intOf]; omega
    · obtain rfl : k = l.length := by omega
      have hT1 : Hid (Rw wr w.heap.size a l ∧ Below w.heap.size w wr) := by
        have := hT.out.2
        rw [List.take_length] at this
        exact this
      have hZ : Hid (N < l.length → Z = Pk.nb N) := hT.out.1
      clear hT hlt hk hlk
      have hsz := wsize_c _ _ a l hT1.out.1 (by omega)
      obtain ⟨wo, hwo⟩ : ∃ wo : World, wo = wr := ⟨_, rfl⟩
      subst hwo
      have hnb : Pk.nb N ≤ 251 ∧ Pk.nb l.length ≤ 251 := by unfold Pk.nb; omega
      go_upto_if 57 with fail
      go_cut [8] (fun s8 wx => s8 = .int .i64 ((Pk.nb N : Nat) : Int) ∧ wx = wo)
      case first =>
        by_cases hNl : N = l.length
        · subst hNl
          go_wp2_with (first | (go_at_call 51; (with_reducible refine hsz.mono ?_); rintro e wn ⟨rfl, rfl⟩))
          go_meet
          exact ⟨rfl, rfl⟩
        · have hZN := hZ.out (by omega)
          have HZN := Lib.hid hZN
          have hkb : ((N : Int) == (l.length : Int)) = false := beq_eq_false_iff_ne.2 (by omega)
          clear hZN
          go_wp2_with fail
          go_meet
          exact ⟨by rw [HZN.out], rfl⟩
      case rest =>
        obtain ⟨rfl, rfl⟩ := hcut
        clear hZ
        have hwt := wterm_c _ _ a l hT1.out.1 (by omega)
        go_upto_region 17 with (first | (go_at_call 51; (with_reducible refine hsz.mono ?_); rintro e wn ⟨rfl, rfl⟩) | (go_at_call 47; (with_reducible refine hwt.mono ?_); rintro e x1 ⟨s1, m1, rfl, hH1, hm1, hA1, hs1, hR1, hK1⟩))
        have hB1 : Hid (Below w.heap.size w x1) := hT1.out.2.trans (hT1.out.1.out hK1)
        have hsl := Pk.seg_len l
        have hlast := Pk.seg_last (l := l)
        have hSb := Pk.seg_bytes HB.out
        have hg := gets_c x1 (Pk.seg l) s1 m1 hH1 hs1 hSb (by omega) l u p (HI.out.call hB1.out) (by omega) 20 (by omega)
          (fun i hi => by rw [Pk.seg_bit HB.out, List.getD_eq_getElem?_getD, List.getElem?_eq_getElem hi]; rfl)
          (fun j _ => by rw [Pk.seg_bit HB.out, Am.getD_over (by omega)])
        obtain ⟨S, hS⟩ : ∃ S, S = Pk.seg l := ⟨_, rfl⟩
        have HS := Lib.hid hS
        rw [← hS] at hH1 hm1 hs1 hsl hlast hSb hg
        rw [← hS]
        have H1 : Hid (HoldsB x1 s1 S ∧ Rw x1 w.heap.size a [] ∧ (s1 = none → S = [] ∧ m1 = 0) ∧ Am.bytes S) := ⟨hH1, hR1, hs1, hSb⟩
        have hAt : Hid (∀ q, S.length = q + 1 → ∃ b off, s1 = some ⟨b, off, none⟩ ∧ x1.cell? ⟨b, off + q, none⟩ = some (.int .u8 (S.getD q 0)) ∧ (S.getD q 0 == 0) = false) := fun q hq => by
          obtain ⟨b, off, h1, h2⟩ := hH1.at (k := q) (by omega)
          have h3 := hlast (by omega)
          rw [hq, Nat.add_sub_cancel] at h3
          exact ⟨b, off, h1, h2, by simpa using h3⟩
        clear hS hH1 hs1 hlast hSb hA1 hR1 hK1 hwt hsz hT1
        obtain ⟨n, hn⟩ : ∃ n, n = S.length := ⟨_, rfl⟩
        rw [← hn] at hg hm1 hsl hAt
        rw [← hn]
        have HNS := Lib.hid hn
        clear hn
        go_cut [91] (fun s91 wx => s91 = .bool false ∧ Hid (Below x1.heap.size x1 wx))
        case first =>
          cases n with
          | zero =>
            clear hAt
            go_wp2_with (first | (go_at_call 60; refine hg.mono ?_; rintro e x2 ⟨rfl, hb2⟩))
            go_meet
            exact ⟨rfl, hb2⟩
          | succ q =>
            obtain ⟨b, off, rfl, hcq, hq0⟩ := hAt.out q rfl
            have hcq2 : ∀ x2, Below x1.heap.size x1 x2 → x2.cell? ⟨b, off + q, none⟩ = some (.int .u8 (S.getD q 0)) := fun x2 hb => (hb.cell (p := ⟨b, off + q, none⟩) (cell_lt hcq)).trans hcq
            have HC2 := Lib.hid hcq2
            clear hcq hcq2 hAt
            generalize S.getD q 0 = y at *
            go_wp2_with (first | (go_at_call 60; refine hg.mono ?_; rintro e x2 ⟨rfl, hb2⟩; have hcx := HC2.out x2 hb2))
            go_meet
            exact ⟨by simp; omega, hb2⟩
        case rest =>
          obtain ⟨rfl, hb2⟩ := hcut
          obtain ⟨W4, rfl⟩ : ∃ W4 : World, W4 = wc := ⟨_, rfl⟩
          clear hg hAt
          have hBc : Hid (Below w.heap.size w W4) := below_call hB1.out hb2.out
          go_upto_if 95 with fail
          go_cut [] (fun wx => Hid (Below W4.heap.size W4 wx))
          case first =>
            by_cases hlt2 : Pk.nb N < n
            · obtain ⟨b1, off1, rfl, _⟩ := (H1.out.1.call hb2.out).at (k := 0) (by rw [← HNS.out]; omega)
              have hHS : HoldsB W4 (some ⟨b1, off1, none⟩) (S.take (Pk.nb N)) := (H1.out.1.call hb2.out).take _
              have hHO : HoldsB W4 so ob := HO.out.call hBc.out
              have htl : (S.take (Pk.nb N)).length = Pk.nb N := by rw [List.length_take]; have := HNS.out; omega
              have hIl : HoldsI W4 u l := HI.out.call hBc.out
              have hlen := gets_pre (S := S) (l := l) (N := N) HB.out HS.out hN (by rw [← HNS.out]; omega) H1.out.2.2.2 HY.out hIl (by omega) hob hnb.1 p
              obtain ⟨D, hD⟩ : ∃ D, D = S.take (Pk.nb N) ++ ob := ⟨_, rfl⟩
              rw [← hD] at hlen
              obtain ⟨T, hTT⟩ : ∃ T, T = S.take (Pk.nb N) := ⟨_, rfl⟩
              rw [← hTT] at htl hHS hD
              have HD : Hid (D = T ++ ob ∧ D.length = Pk.nb N + ob.length) := ⟨hD, by rw [hD, List.length_append, htl]⟩
              have HG2 := Lib.hid hlen
              have HTL := Lib.hid htl
              have HA := Lib.hid ((Below.refl W4.heap.size W4).alloc (Nat.le_refl _) (.cells #[] 5))
              have HE := Lib.hid (World.ownsRow_made W4 #[] 0 (Nat.le_refl _) (by decide : (0:Nat) ≤ maxLen) (by simp) : (W4.alloc (.cells #[] 5)).ownsRow W4.heap.size 5 1 (.slice (some ⟨W4.heap.size, 0, none⟩) 0 0) 0 [])
              have HHS := Lib.hid hHS
              have HHO := Lib.hid hHO
              have hnb9 := hnb.1
              have hcap1 : Pk.nb N ≤ m1 := by omega
              have hcap2 : N ≤ p := by omega
              have F : Hid ((T.map (Value.int .u8)).length = Pk.nb N * 1 ∧ 0 + Pk.nb N ≤ maxLen ∧ (0 + Pk.nb N) * 1 ≤ 140737488355328 ∧ W4.heap.size ≤ (W4.alloc (.cells #[] 5)).drew.heap.size ∧ (ob.map (Value.int .u8)).length = ob.length * 1 ∧ Pk.nb N + ob.length ≤ maxLen ∧ (Pk.nb N + ob.length) * 1 ≤ 140737488355328) := ⟨by simp [HTL.out], by unfold maxLen; omega, by omega, by simp, by simp, by unfold maxLen; omega, by omega⟩
              have HE' : Hid ((W4.alloc (.cells #[] 5)).drew.ownsRow W4.heap.size 5 1 (.slice (some ⟨W4.heap.size, 0, none⟩) 0 0) 0 []) := HE.out
              have HN1 : Hid (∀ j x, (T.map (Value.int .u8))[j]? = some x → (W4.alloc (.cells #[] 5)).drew.cell? ((⟨b1, off1, none⟩ : Addr).add j) = some x) := fun j x hx => holdsB_list (HHS.out.call ((Below.refl _ _).alloc (Nat.le_refl _) _)) j x hx
              have HA' : Hid (Below W4.heap.size W4 (W4.alloc (.cells #[] 5)).drew) := HA.out.drew
              obtain ⟨i0, hi, hz0, hz1, hz2⟩ := info_parts info8
              clear hIl hD hlen htl hHS hHO hTT
              cases so with
              | some po =>
                go_wp2_with fail
                go_region_law (first | (refine step_append_own rfl (.tmp 96) (.tmp 99) 34 rfl W4.heap.size 5 i0 (.int .u8 0) 1 1 Tryd.underlying34 hi hz0 hz1 hz2 rfl (by decide) _ 0 [] rfl HE'.out ⟨b1, off1, none⟩ (Pk.nb N) m1 (T.map (Value.int .u8)) rfl F.out.1 HN1.out (one8 _) F.out.2.1 F.out.2.2.1 F.out.2.2.2.1 ?_; intro v1 w5 hown1 hgr1; have hb5 : Below W4.heap.size W4 w5 := HA'.out.grown hgr1 F.out.2.2.2.1 (fun k hk => Nat.le_of_eq (Option.some.inj hk)); have hown1' : w5.ownsRow W4.heap.size 5 1 v1 (Pk.nb N) (T.map (Value.int .u8)) := (by simpa using hown1); obtain ⟨s5, m5, rfl⟩ := own_slice hown1'; have HB5 := Lib.hid hb5; have HO5 := Lib.hid hown1'; clear hgr1 hown1 hown1' hb5) | (refine step_append_own rfl (.tmp 100) (.tmp 101) 34 rfl W4.heap.size 5 i0 (.int .u8 0) 1 1 Tryd.underlying34 hi hz0 hz1 hz2 rfl (by decide) _ (Pk.nb N) _ rfl HO5.out po ob.length mo (ob.map (Value.int .u8)) rfl F.out.2.2.2.2.1 (fun j x hx => holdsB_list (HHO.out.call HB5.out) j x hx) (one8 _) F.out.2.2.2.2.2.1 F.out.2.2.2.2.2.2 HB5.out.size ?_; intro v2 w6 hown2 hgr2; have hb6 : Below W4.heap.size W4 w6 := HB5.out.grown hgr2 HB5.out.size (fun k hk => (own_foot HO5.out hk).1); have hown2' : w6.ownsRow W4.heap.size 5 1 v2 D.length (D.map (Value.int .u8)) := (by rw [HD.out.2, HD.out.1, List.map_append]; exact hown2); obtain ⟨_, s6, m6, rfl, hH6, _, hN6⟩ := HoldsB.of_own hown2'; rw [HD.out.2]; have H6 := Lib.hid hH6; have N6 := Lib.hid hN6; have B6 := Lib.hid hb6; clear hgr2 hown2 hown2' hb6 hH6 hN6) | (go_simp; go_at_call 60; (refine (HG2.out _ B6.out _ _ H6.out N6.out).mono ?_); rintro e x7 ⟨rfl, hb7⟩; have B7 := Lib.hid (below_call B6.out hb7); clear hb7; go_wp2_with fail))
                all_goals
                  go_wp2_with fail
                  go_meet
                  exact B7.out
              | none =>
                obtain ⟨hob0, hmo0⟩ := HN.out rfl
                have HG3 : Hid (∀ x, Below W4.heap.size W4 x → ∀ s' m', HoldsB x s' D → (s' = none → D = [] ∧ m' = 0) →
                    Calls Tryd.prog 60 #[.slice s' (Pk.nb N) m', .slice u N p, .int .i64 0] x fun e w' => e = .returned (.bool true) ∧ Below x.heap.size x w') := by
                  have := HG2.out
                  rw [hob0, List.length_nil, Nat.add_zero] at this
                  exact this
                have HD3 : Hid (D = T ∧ D.length = Pk.nb N) := by
                  have := HD.out
                  rw [hob0, List.length_nil, Nat.add_zero, List.append_nil] at this
                  exact this
                have hob1 : ob.length = 0 := by rw [hob0]; rfl
                have F4 : Hid ((T.map (Value.int .u8)).length = Pk.nb N * 1 ∧ 0 + Pk.nb N ≤ maxLen ∧ (0 + Pk.nb N) * 1 ≤ 140737488355328 ∧ W4.heap.size ≤ (W4.alloc (.cells #[] 5)).drew.heap.size) := ⟨F.out.1, F.out.2.1, F.out.2.2.1, F.out.2.2.2.1⟩
                clear HG2 HD F
                have HSL : Hid (Value.slice none ob.length mo = .slice none 0 0) := by show _ = _; rw [hob1, hmo0]
                clear hob0 hmo0 hob1 HN HO HY HHO
                go_wp2_with fail
                go_region_law (first | (refine step_append_own rfl (.tmp 96) (.tmp 99) 34 rfl W4.heap.size 5 i0 (.int .u8 0) 1 1 Tryd.underlying34 hi hz0 hz1 hz2 rfl (by decide) _ 0 [] rfl HE'.out ⟨b1, off1, none⟩ (Pk.nb N) m1 (T.map (Value.int .u8)) rfl F4.out.1 HN1.out (one8 _) F4.out.2.1 F4.out.2.2.1 F4.out.2.2.2 ?_; intro v1 w5 hown1 hgr1; have hb5 : Below W4.heap.size W4 w5 := HA'.out.grown hgr1 F4.out.2.2.2 (fun k hk => Nat.le_of_eq (Option.some.inj hk)); have hown1' : w5.ownsRow W4.heap.size 5 1 v1 (Pk.nb N) (T.map (Value.int .u8)) := (by simpa using hown1); obtain ⟨s5, m5, rfl⟩ := own_slice hown1'; have HB5 := Lib.hid hb5; have HO5 := Lib.hid hown1'; clear hgr1 hown1 hown1' hb5) | (refine step_append_none rfl (.tmp 100) (.tmp 101) 34 rfl W4.heap.size 5 i0 1 Tryd.underlying34 hi _ (Pk.nb N) _ rfl HO5.out HSL.out ?_; have hown2' : w5.ownsRow W4.heap.size 5 1 (.slice s5 (Pk.nb N) m5) D.length (D.map (Value.int .u8)) := (by rw [HD3.out.2, HD3.out.1]; exact HO5.out); obtain ⟨_, s6, m6, he6, hH6, _, hN6⟩ := HoldsB.of_own hown2'; simp at he6; obtain ⟨rfl, hq6, rfl⟩ := he6; clear hq6; have H6 := Lib.hid hH6; have N6 := Lib.hid hN6; have B6 := HB5; clear hown2' hH6 hN6) | (go_simp; go_at_call 60; (with_reducible refine (HG3.out _ B6.out _ _ H6.out N6.out).mono ?_); rintro e x7 ⟨rfl, hb7⟩; have B7 := Lib.hid (below_call B6.out hb7); clear hb7; go_wp2_with fail))
                all_goals
                  go_wp2_with fail
                  go_meet
                  exact B7.out
            · have hge : n ≤ Pk.nb N := by omega
              go_wp2_with fail
              go_meet
              exact Below.refl _ _
          case rest =>
            obtain ⟨W5, rfl⟩ : ∃ W5 : World, W5 = wc := ⟨_, rfl⟩
            have hR5 : Hid (Rw W5 w.heap.size a [] ∧ Below w.heap.size w W5) := ⟨(H1.out.2.1.below hb2.out).below hcut.out, below_call hBc.out hcut.out⟩
            clear hcut hb2 hBc H1 hm1 hsl HNS HS hnb hB1
            obtain ⟨C, hC⟩ : ∃ C, C = l.map fun x => 1 - x := ⟨_, rfl⟩
            have hCl : C.length = l.length := by rw [hC, List.length_map]
            have HCB : Hid (Pk.bits C) := by show Pk.bits C; rw [hC]; exact com_bits HB.out
            have HCE : Hid (∀ k (hk : k < l.length), C[k]? = some (1 - l[k])) := fun k hk => by rw [hC]; simp [hk]
            have HCL := Lib.hid hCl
            clear hC hCl
            go_wp2_with fail
            go_loopw [110] (fun i wr => ∃ k : Nat, k ≤ l.length ∧ i = .int .i64 (k : Int) ∧ Hid (Rw wr w.heap.size a (C.take k) ∧ Below w.heap.size w wr)) (fun i _ => l.length - (intOf i).toNat)
            case atStart => exact ⟨0, Nat.zero_le _, rfl, hR5⟩
            case round =>
              obtain ⟨k, hk, rfl, hT⟩ := hrel
              by_cases hlt : k < l.length
              · obtain ⟨b, off, rfl, hc⟩ := (HI.out.call hT.out.2).at hlt
                have hCk := HCE.out k hlt
                have hkC : k < C.length := by rw [HCL.out]; exact hlt
                have hCg : C[k] = 1 - l[k] := by rw [List.getElem?_eq_getElem hkC] at hCk; exact Option.some.inj hCk
                have hsn : C.take (k + 1) = C.take k ++ [1 - l[k]] := by rw [List.take_succ_eq_append_getElem hkC, hCg]
                have hbl := HB.out _ (List.getElem_mem hlt)
                have hbk : Pk.bit (1 - l[k]) := by unfold Pk.bit at *; omega
                have hput := put_c _ _ a (C.take k) (1 - l[k]) hT.out.1 (Pk.bits_take HCB.out k) (by have := List.length_take_le k C; omega)
                rw [(putL_snoc (l := C.take k) hbk).1, (putL_snoc (l := []) hbk).2, ← hsn] at hput
                have h01 : 0 ≤ l[k] ∧ l[k] ≤ 1 := by unfold Pk.bit at hbl; omega
                clear hsn hbk hbl hCg hCk
                generalize l[k] = x at *
                go_wp2_with (first | (go_at_call 49; (with_reducible refine hput.mono ?_); rintro e x1 ⟨rfl, hR1, hK1⟩))
                go_roundw
                case rel => exact ⟨k + 1, by omega, by go_num, hR1, hT.out.2.trans (hT.out.1.out hK1)⟩
                case measure => simp [intOf]; omega
              · obtain rfl : k = l.length := by omega
                have hT6 : Hid (Rw wr w.heap.size a C ∧ Below w.heap.size w wr) := by
                  have := hT.out
                  rw [← HCL.out, List.take_length] at this
                  exact this
                clear hT hlt hk
                have hwt := wterm_c _ _ a C hT6.out.1 (by rw [HCL.out]; omega)
                go_wp2_with (first | (go_at_call 47; (with_reducible refine hwt.mono ?_); rintro e x3 ⟨s3, m3, rfl, hH3, hm3, hA3, hs3, hR3, hK3⟩))
                have hB3 : Hid (Below w.heap.size w x3) := hT6.out.2.trans (hT6.out.1.out hK3)
                have hs3l := Pk.seg_len C
                have hrn := rnew_c x3 (Pk.seg C) s3 m3 hH3 hs3 (by have := HCL.out; unfold Pk.nb at hs3l; omega)
                clear hwt hH3 hm3 hA3 hs3 hR3 hK3 hs3l
                refine hrn.mono ?_
                rintro e x4 ⟨r, rfl, hR4, hb4⟩
                have hT7 : Hid (Rr x4 w.heap.size r (Pk.seg C) 0 ∧ Below w.heap.size w x4) := ⟨hR4.lower hB3.out.size, below_call hB3.out hb4⟩
                clear hrn hR4 hb4
                go_wp2_with fail
                go_loopw [128] (fun i wr => ∃ k : Nat, k ≤ l.length ∧ i = .int .i64 (k : Int) ∧ Hid (Rr wr w.heap.size r (Pk.seg C) k ∧ Below w.heap.size w wr)) (fun i _ => l.length - (intOf i).toNat)
                case atStart => exact ⟨0, Nat.zero_le _, rfl, hT7⟩
                case round =>
                  obtain ⟨k, hk, rfl, hT⟩ := hrel
                  by_cases hlt : k < l.length
                  · obtain ⟨b, off, rfl, hc0⟩ := HI.out.at hlt
                    have hblt := cell_lt hc0
                    have hc := (hT.out.2.cell (p := ⟨b, off + k, none⟩) hblt).trans hc0
                    have hg := rget_c _ _ r (Pk.seg C) k (hT.out.1.below (Below.refl _ _).drew) (Pk.seg_bytes HCB.out) (by omega)
                    have hCk := HCE.out k hlt
                    rw [Pk.seg_bit HCB.out, List.getD_eq_getElem?_getD, hCk] at hg
                    replace hg : Calls Tryd.prog 55 #[.pointer (some ⟨r, 0, none⟩)] wr.drew (RrGives w.heap.size r (Pk.seg C) (k + 1) (1 - l[k]) wr.drew) := hg
                    have hbl := HB.out _ (List.getElem_mem hlt)
                    have h01 : 0 ≤ l[k] ∧ l[k] ≤ 1 := by unfold Pk.bit at hbl; omega
                    have HC0 := Lib.hid hc0
                    clear hc0 hCk hbl
                    generalize l[k] = x at *
                    have e1 : IntKind.i64.wrap (1 - x) = 1 - x := IntWalk.i64_in _ (by omega)
                    have hxx : ((1 - x) != (1 - x)) = false := by simp
                    have hcd : wr.drew.cell? ⟨b, off + k, none⟩ = some (.int .i64 x) := hc
                    go_upto_region 33 with fail
                    go_region_held3 (fun w' => w'.cell? ⟨b, off + k, none⟩ = some (.int .i64 x))
                      (first | (with_reducible exact hcd) | (with_reducible exact hc2) | fail)
                      (first | (go_at_call 55; (with_reducible refine hg.mono ?_); rintro e x1 ⟨rfl, hR1, hK1⟩; have hB1 := hT.out.2.trans (hT.out.1.out ((Kp.of_below (Below.refl _ _).drew hT.out.1.lt).trans hK1)); have hc2 := (hB1.cell (p := ⟨b, off + k, none⟩) hblt).trans HC0.out) | fail)
                    all_goals
                      clear e1
                      go_wp2_with fail
                      go_roundw
                      case rel => exact ⟨k + 1, by omega, by go_num, ⟨hR1, hB1⟩⟩
                      case measure => simp [intOf]; omega
                  · obtain rfl : k = l.length := by omega
                    go_wp2_with fail
                    refine (awake12_c _).mono ?_
                    rintro e w5 ⟨rfl, hb5⟩
                    go_wp2_with fail
                    go_ret
                    exact ⟨rfl, below_call hT.out.2 hb5⟩

set_option maxRecDepth 100000 in
theorem lifted (os : Os) (started : os.Started) (H : Type) (enc : TypeId × Value → H) :
    ReturnsInHanded {} Tryd.checked os 13 .any (fun w args => (Rows.rawbitsRestoresSpec.pre enc Tryd.prog Tryd.f13 Rows.rawbitsRestoresRow.domain false w args ∧ laidMetH Tryd.prog Rows.rawbitsRestoresRow.laid w) ∧ sizedMet enc Tryd.prog Tryd.f13 (OpenSpec.ofChange Rows.rawbitsRestoresSpec) false w args)
      (Rows.rawbitsRestoresSpec.post enc Tryd.prog Tryd.f13 false true false false) := by
  refine returnsInHanded_of_change_and (C := Tryd.checked) (X := fun w _ => laidMetH Tryd.prog Rows.rawbitsRestoresRow.laid w) (fun _ _ _ hh h => h.of_heap hh) own started (by kernel_rfl) Tryd.func13
    (ChangeSpec.witness_shaped (enc := enc) (C := Tryd.checked) (os := os) (X := fun w _ => laidMetH Tryd.prog Rows.rawbitsRestoresRow.laid w) false (World.laidAll Tryd.prog os Rows.rawbitsRestoresRow.laid) #[.slice none 0 0, .int .i64 0, .slice none 0 0] 8 (World.laidAll_os _ _ _)
      (World.shaped_of_ZipB (by kernel_rfl) (by kernel_rfl)) (by kernel_rfl) (by kernel_rfl) (by kernel_rfl)
      (by rw [MakeChecks.laidMetH_plain _ _ _ (by kernel_rfl)]; exact laidMet_laidAll _ (by kernel_rfl) (by kernel_rfl))) ?_
  intro W base args ds gs before hval0 hW _ _ _ _
  have hval : ∀ (j : Nat) t v, Tryd.f13.params[j]? = some t → args[j]? = some v → Value.okWide Tryd.prog W .any base t v := hval0
  have hW' := hW
  obtain ⟨p, q, hA0, hV, rfl, _, _⟩ := hW
  have hA : DataW.TrodAll enc Tryd.prog W 0 (fun _ => true) true Tryd.f13.params.toList args.toList ds p := hA0
  rw [Tryd.params13] at hA hval
  obtain ⟨v0, vs0, d0, ds0, p0, q0, hargs, rfl, rfl, h0, r0⟩ := trodAll_cons hA
  obtain ⟨v1, vs1, d1, ds1, p1, q1, rfl, rfl, rfl, h1, r1⟩ := trodAll_cons r0
  obtain ⟨v2, vs2, d2, ds2, p2, q2, rfl, rfl, rfl, h2, r2⟩ := trodAll_cons r1
  obtain ⟨rfl, rfl, rfl⟩ := trodAll_nil r2
  obtain rfl : args = #[v0, v1, v2] := by cases args; simp_all
  obtain ⟨rfl, rfl⟩ := trodVars_none hV
  clear hA0 hval0
  simp only [List.append_nil] at hW'
  have l0 : ∀ x ∈ p0, x.block < W.heap.size := fun x hx => hW'.lt x (by simp [hx])
  have l1 : ∀ x ∈ p1, x.block < W.heap.size := fun x hx => hW'.lt x (by simp [hx])
  have l2 : ∀ x ∈ p2, x.block < W.heap.size := fun x hx => hW'.lt x (by simp [hx])
  obtain ⟨s0, b0, m0, rfl, hB0, hm0, _, hn0⟩ := open_intsT (hval 0 54 v0 rfl rfl) h0
  obtain ⟨i1, rfl, _, _, wi1⟩ := open_int Tryd.underlying3 (hval 1 3 v1 rfl rfl) h1
  obtain ⟨s2, b2, m2, rfl, hB2, hY2, hm2, _, hn2⟩ := open_bytes (hval 2 34 v2 rfl rfl) h2
  refine (walk b0 s0 m0 i1 b2 s2 m2 W hB0 hm0 hB2 hY2 hn2).mono fun e W' ⟨he, hb⟩ => ?_
  subst he
  exact ⟨_, rfl, post_low (pa := p0 ++ (p1 ++ (p2 ++ ([])))) (pv := []) hW' (fun _ _ _ => (trodAll_cons_mk (shut_bool Tryd.underlying4 _) trodAll_mk0)) (fun sp hsp => (trodAll_cons_mk (trod_low laidOut (by kernel_rfl) (of_decide_eq_true (by kernel_rfl)) h0 hb l0 (fun x hx => hsp x (by simp [hx]))) (trodAll_cons_mk (trod_low laidOut (by kernel_rfl) (of_decide_eq_true (by kernel_rfl)) h1 hb l1 (fun x hx => hsp x (by simp [hx]))) (trodAll_cons_mk (trod_low laidOut (by kernel_rfl) (of_decide_eq_true (by kernel_rfl)) h2 hb l2 (fun x hx => hsp x (by simp [hx]))) trodAll_mk0)))) (fun _ _ => rfl) (by simp) hb (ok_one (by kernel_rfl) rfl (okWide_bool_mk Tryd.underlying4 _))⟩

theorem over : Rows.rawbitsRestoresRow.holds Tryd.pinned (OpenSpec.ofChange Rows.rawbitsRestoresSpec) :=
  OpenClaim.holds_of_wide 13 Tryd.f13 rfl rfl rfl rfl rfl rfl rfl ⟨rfl, rfl, rfl, rfl, rfl⟩ rfl rfl rfl rfl rfl (by kernel_rfl) Tryd.func13 (by kernel_rfl)
    (of_decide_eq_true (by kernel_rfl)) (by unfold Func.isWrapper; first | (rw [if_pos (by decide +kernel)]; kernel_rfl) | (rw [if_neg (by decide +kernel)]; exact ⟨rfl, rfl⟩))
    (fun os started H enc _ => lifted os started H enc)
theorem proved : Rows.RawbitsRestoresCardSaid :=
  Claim7.holds_tied_plain_at .later [] [.data, .pinned] true Rows.rawbitsRestoresCard.stood.harness false over (fun _ h => by cases h) (by kernel_rfl) (fun _ h => by cases h) rawbitsRestores_row_tie rfl ⟨rfl, rfl⟩ (by kernel_rfl) rfl
    (fun f fn hf hfn => by
      obtain rfl : f = 13 := Option.some.inj ((show Tryd.prog.funcNamed Rows.rawbitsRestoresRow.func = some 13 by kernel_rfl).symm.trans hf) |>.symm
      obtain rfl : fn = Tryd.f13 := (Option.some.inj (Tryd.func13.symm.trans hfn)).symm
      exact ⟨by kernel_rfl, fun j t ht => by
        rw [Tryd.params13] at ht
        have hm : t ∈ [54, 3, 34] := by simpa using Array.mem_of_getElem? ht
        have hall : ([54, 3, 34].all fun u => !Tryd.prog.wantsStandIn u) = true := by kernel_rfl
        exact (show Tryd.prog.wantsStandIn t = false by simpa using List.all_eq_true.1 hall t hm)⟩)
    (by kernel_rfl)
#print axioms proved
end Go.Proofs.YtbaappodeicomaaDoor.rawbitsRestores
