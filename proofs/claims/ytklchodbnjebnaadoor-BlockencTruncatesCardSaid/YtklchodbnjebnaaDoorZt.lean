/-
  The reference of layer 17: Truncate.
-/
import Derived.Test.YtklchodbnjebnaaDoorNU
import Derived.Test.YtklchodbnjebnaaDoorNR
set_option maxRecDepth 100000
namespace Go.Proofs.YtklchodbnjebnaaDoor
open Go.RowKit

theorem wp_append_opt {o : Oper} {act : Act} {w : World} {K : Act → World → Prop} {Q : Exit → Act → World → Prop} (s x : Operand)
    (base : Nat) (v : Value) (n : Nat) (xs : List Value) (hs : act.eval s = v) (hown : w.ownsRow base 5 1 v n xs) (so : Option Addr) (ob : List Int) (mo : Nat) (hx : act.eval x = .slice so ob.length mo) (hH : HoldsB w so ob) (hn0 : so = none → ob = [] ∧ mo = 0)
    (h1 : n + ob.length ≤ maxLen) (h2 : (n + ob.length) * 1 ≤ 140737488355328) (hb : base ≤ w.heap.size) (ho : o.op = .call { callee := .builtin .append, args := #[s, x], argTypes := #[23, 23] })
    (h : ∀ v' w', w'.ownsRow base 5 1 v' (n + ob.length) (xs ++ ob.map (Value.int .u8)) → w.grownBy w' v.ownBlock → K (act.put o.dst v') w') : Oper.wp Tryd.prog o act w K Q := by
  obtain ⟨i0, hi, hz0, hz1, hz2⟩ := info_parts info8
  cases so with
  | some po => exact wp_append_own w s x 23 ho base 5 i0 (.int .u8 0) 1 1 Tryd.underlying23 hi hz0 hz1 hz2 rfl (by decide) v n xs hs hown po ob.length mo (ob.map (Value.int .u8)) hx (by simp) (fun j x hx => holdsB_list hH j x hx) (one8 _) h1 h2 hb fun v' w' h2 h3 _ => h v' w' h2 h3
  | none =>
    obtain ⟨rfl, rfl⟩ := hn0 rfl
    have hx' : act.eval x = .slice none 0 0 := hx
    have hrun := run_append_owned_none (P := Tryd.prog) (w := w) base 23 o.type 5 i0 1 Tryd.underlying23 hi v n xs hown
    unfold Oper.wp
    simp [execOp, ho, resolve, invoke, builtin, hs, hx', hrun, Result.andThen]
    exact h v w (by simpa using hown) ⟨rfl, rfl, rfl, Nat.le_refl _, fun _ _ _ => rfl⟩
theorem step_append_opt {ops : Array Oper} {o : Oper} {act : Act} {w : World} {K : Act → World → Prop} {Q : Exit → Act → World → Prop} {E : Prop} (s x : Operand)
    (base : Nat) (v : Value) (n : Nat) (xs : List Value) (hs : act.eval s = v) (hown : w.ownsRow base 5 1 v n xs) (so : Option Addr) (ob : List Int) (mo : Nat) (hx : act.eval x = .slice so ob.length mo) (hH : HoldsB w so ob) (hn0 : so = none → ob = [] ∧ mo = 0)
    (h1 : n + ob.length ≤ maxLen) (h2 : (n + ob.length) * 1 ≤ 140737488355328) (hb : base ≤ w.heap.size) (ho : o.op = .call { callee := .builtin .append, args := #[s, x], argTypes := #[23, 23] }) (hw : Region.wanted o (yielded ops act.tmps) = true)
    (h : ∀ v' w', w'.ownsRow base 5 1 v' (n + ob.length) (xs ++ ob.map (Value.int .u8)) → w.grownBy w' v.ownBlock → K (act.put o.dst v') w') : if Region.wanted o (yielded ops act.tmps) = true then Oper.wp Tryd.prog o act w K Q else E := by
  rw [if_pos hw]
  exact wp_append_opt s x base v n xs hs hown so ob mo hx hH hn0 h1 h2 hb ho h
set_option maxHeartbeats 4000000 in
theorem ztrunc_c (pl p : Int) (E D : List Int) (v : Value) (m : Mo) (W : World) (hv : CvAt W v pl E D) (hl : E.length ≤ 1000000000) :
    Calls Tryd.prog 13 #[v, .int .i64 p, m.val] W (TrG pl E D p W) := by
  obtain ⟨se, me, sd, md9, rfl, hE, hD, hme, hmd, hen, hdn⟩ := hv
  have kv := fun (W1 : World) (hb : Below W.heap.size W W1) => zvalid_c pl E se me sd D.length md9 m W1 (hE.below hb (Nat.le_refl _)) hl
  obtain ⟨va, hva⟩ : ∃ x, x = vaE pl E D.length := ⟨_, rfl⟩
  unfold VaG at kv
  obtain ⟨i0, hi9, hz0, hz1, hz2⟩ := info_parts infoI
  rw [← hva] at kv
  obtain ⟨mb, mr, ms, mc, my⟩ := m
  unfold Mo.val at *
  dsimp only at *
  obtain ⟨WA, hWA⟩ : ∃ x, x = ((W.alloc (.cells #[.int .i64 pl, .slice se E.length me, .slice sd D.length md9] 25)).alloc (.cells #[.bool mb, .bool mr, .bool ms, .bool mc, .bool my] 27)).alloc (.cells #[.int .i64 0, .slice none 0 0, .slice none 0 0] 25) := ⟨_, rfl⟩
  have hB : Below W.heap.size W WA := by rw [hWA]; exact below_alloc (below_alloc (below_alloc (Below.refl _ W) _) _) _
  have CB0 : Blk WA W.heap.size 25 #[.int .i64 pl, .slice se E.length me, .slice sd D.length md9] := by rw [hWA]; exact ((Blk.new W _ _).alloc _).alloc _
  have RB0 : Blk WA (W.heap.size + 2) 25 #[.int .i64 0, .slice none 0 0, .slice none 0 0] := by
    have := Blk.new ((W.alloc (.cells #[.int .i64 pl, .slice se E.length me, .slice sd D.length md9] 25)).alloc (.cells #[.bool mb, .bool mr, .bool ms, .bool mc, .bool my] 27)) 25 #[.int .i64 0, .slice none 0 0, .slice none 0 0]
    rw [hWA]; simpa using this
  have k := kv WA hB
  rw [hWA] at k
  have HB := Lib.hid hB
  have HCB := Lib.hid CB0
  have HRB := Lib.hid RB0
  have HWA := Lib.hid hWA
  have HVA := Lib.hid hva
  have HE := Lib.hid hE
  have HD := Lib.hid hD
  have HL := Lib.hid hl
  have HEN := Lib.hid hen
  have HDN := Lib.hid hdn
  have HME := Lib.hid hme
  have HMD := Lib.hid hmd
  clear kv hva hB CB0 RB0 hWA hE hD hl hen hdn hme hmd
  have fin : ∀ (w1 : World) (x y z : Value), Below W.heap.size W w1 → Below W.heap.size W (((w1.setCell ⟨W.heap.size + 2, 0, none⟩ x).setCell ⟨W.heap.size + 2, 1, none⟩ y).setCell ⟨W.heap.size + 2, 2, none⟩ z) := fun w1 x y z h => ((h.setCell (p := ⟨W.heap.size + 2, 0, none⟩) (by show W.heap.size ≤ W.heap.size + 2; omega) _).setCell (p := ⟨W.heap.size + 2, 1, none⟩) (by show W.heap.size ≤ W.heap.size + 2; omega) _).setCell (p := ⟨W.heap.size + 2, 2, none⟩) (by show W.heap.size ≤ W.heap.size + 2; omega) _
  have FIN := Lib.hid fin
  clear fin
  by_cases h0 : va = 0
  · subst h0
    by_cases h1 : p < 0
    · go_enter Tryd.func13, Tryd.ntmps13
      go_wp2_with (first | (go_at_call 11; (with_reducible refine k.mono ?_); rintro e w1 ⟨rfl, hb⟩; have B1 := Lib.hid (show Below WA.heap.size WA w1 by rw [HWA.out]; exact hb); have CB1 := Lib.hid (HCB.out.below B1.out); have RB1 := Lib.hid (HRB.out.below B1.out); have x0 := CB1.out.cell 0; have x1 := CB1.out.cell 1; have x2 := CB1.out.cell 2; have b0 := RB1.out.cell 0; have b1 := RB1.out.cell 1; have b2 := RB1.out.cell 2; have f0 := RB1.out.free 0; have f1 := RB1.out.free 1; have f2 := RB1.out.free 2; clear hb))
      (try simp only [Exit.inBlock, Exit.then])
      refine bodyPost_ret (results_coded rfl _ rfl rfl (RB1.out.set3 _ _ _)) rfl ?_
      have ht : trE pl E D.length p = 2 := by unfold trE; rw [if_neg (by rw [← HVA.out]; simp), if_pos (.inl h1)]
      exact ⟨FIN.out _ _ _ _ (below_call HB.out B1.out), .inl ⟨by rw [ht]; decide, by rw [ht]; rfl⟩⟩
    · by_cases h2 : (E.length : Int) < p
      · go_enter Tryd.func13, Tryd.ntmps13
        go_wp2_with (first | (go_at_call 11; (with_reducible refine k.mono ?_); rintro e w1 ⟨rfl, hb⟩; have B1 := Lib.hid (show Below WA.heap.size WA w1 by rw [HWA.out]; exact hb); have CB1 := Lib.hid (HCB.out.below B1.out); have RB1 := Lib.hid (HRB.out.below B1.out); have x0 := CB1.out.cell 0; have x1 := CB1.out.cell 1; have x2 := CB1.out.cell 2; have b0 := RB1.out.cell 0; have b1 := RB1.out.cell 1; have b2 := RB1.out.cell 2; have f0 := RB1.out.free 0; have f1 := RB1.out.free 1; have f2 := RB1.out.free 2; clear hb))
        (try simp only [Exit.inBlock, Exit.then])
        refine bodyPost_ret (results_coded rfl _ rfl rfl (RB1.out.set3 _ _ _)) rfl ?_
        have ht : trE pl E D.length p = 2 := by unfold trE; rw [if_neg (by rw [← HVA.out]; simp), if_pos (.inr h2)]
        exact ⟨FIN.out _ _ _ _ (below_call HB.out B1.out), .inl ⟨by rw [ht]; decide, by rw [ht]; rfl⟩⟩
      · obtain ⟨n, rfl⟩ : ∃ n : Nat, p = n := ⟨p.toNat, by omega⟩
        have hnl : n ≤ E.length := by omega
        have ht : Hid (trE pl E D.length (n : Int) = 0) := by show _ = _; unfold trE; rw [if_neg (by rw [← HVA.out]; simp), if_neg (by omega)]
        obtain ⟨v1, v2, v3, v4, v5, v6⟩ := va_ok HVA.out.symm
        have HNL := Lib.hid hnl
        by_cases hn0 : n = 0
        · subst hn0
          clear v1 v2 v3 v4 v5 v6 hnl
          go_enter Tryd.func13, Tryd.ntmps13
          go_wp2_with (first | (go_at_call 11; (with_reducible refine k.mono ?_); rintro e w1 ⟨rfl, hb⟩; have B1 := Lib.hid (show Below WA.heap.size WA w1 by rw [HWA.out]; exact hb); have CB1 := Lib.hid (HCB.out.below B1.out); have RB1 := Lib.hid (HRB.out.below B1.out); have x0 := CB1.out.cell 0; have x1 := CB1.out.cell 1; have x2 := CB1.out.cell 2; have RB2 := Lib.hid (RB1.out.alloc (.cells #[.int .i64 pl, .slice none 0 0, .slice none 0 0] 25)); have b0 := RB2.out.cell 0; have b1 := RB2.out.cell 1; have b2 := RB2.out.cell 2; have f0 := RB2.out.free 0; have f1 := RB2.out.free 1; have f2 := RB2.out.free 2; clear hb))
          (try simp only [Exit.inBlock, Exit.then])
          refine bodyPost_ret (results_coded rfl _ rfl rfl (RB2.out.set3 _ _ _)) rfl ?_
          refine ⟨FIN.out _ _ _ _ ((below_call HB.out B1.out).alloc (below_call HB.out B1.out).size _), .inr ⟨ht.out, .agg #[.int .i64 pl, .slice none 0 0, .slice none 0 0], rfl, ?_, ?_⟩⟩
          · exact ⟨none, 0, none, 0, rfl, .inl rfl, .inl rfl, by simp, by simp [trD, pvE], fun _ => ⟨rfl, rfl⟩, fun _ => ⟨rfl, rfl⟩⟩
          · exact cvNew_mk (fun p hp => by cases hp) (fun p hp => by cases hp)
        · obtain ⟨n1, hn1⟩ : ∃ k, n = k + 1 := ⟨n - 1, by omega⟩
          obtain ⟨be, oe, rfl⟩ : ∃ b off, se = some ⟨b, off, none⟩ := by
            rcases HE.out with h | ⟨b, off, h, _⟩
            · exfalso; rw [h] at hnl; simp at hnl; omega
            · exact ⟨b, off, h⟩
          have hEn := HE.out.resolve_left (fun h => by rw [h] at hnl; simp at hnl; omega)
          have hi1 : n1 < E.length := by omega
          have hpv0 := pvE_succ E n1 hi1
          have hq0 := pv_nn v4 hnl
          have hq1 := pv_le v4 hnl (Nat.le_refl _)
          rw [v5] at hq1
          have hpv : pvE E n = E[n1] := (congrArg (pvE E) hn1).trans hpv0
          clear hpv0
          obtain ⟨q, hq⟩ : ∃ q : Nat, pvE E n = q := ⟨(pvE E n).toNat, by omega⟩
          have HQ := Lib.hid hq
          have hqd : q ≤ D.length := by omega
          have HQD := Lib.hid hqd
          have ks : True := trivial
          have htl : (E.take n).length = n := by rw [List.length_take]; omega
          obtain ⟨dq, hdq⟩ : ∃ x, x = D.take q := ⟨_, rfl⟩
          have HDQ := Lib.hid hdq
          have kb := fun (w : World) (hb : Below W.heap.size W w) => clone_c w (D.take q) sd md9 ((HD.out.take q).call hb) (fun h => by obtain ⟨h1, h2⟩ := HDN.out h; exact ⟨by rw [h1]; simp, h2⟩) (by rw [List.length_take]; omega)
          rw [← hdq] at kb
          have hql : dq.length = q := by rw [hdq, List.length_take]; omega
          have hkb : ∀ (w : World), Below W.heap.size W w → Calls Tryd.prog 22 #[.slice sd q md9] w (GivesB dq w) := fun w hb => by have := kb w hb; rw [hql] at this; exact this
          clear kb hdq
          have kb := hkb
          clear hkb
          obtain ⟨b', off', eo, hr⟩ := hEn
          simp at eo
          obtain ⟨rfl, rfl⟩ := eo
          have hcn := fun (w : World) (hb : Below W.heap.size W w) => (hb.cell (p := ⟨be, oe + n1, none⟩) (cell_lt (hr n1 hi1))).trans (hr n1 hi1)
          rw [← hpv, hq] at hcn
          have KB := Lib.hid kb
          have HCN := Lib.hid hcn
          have HTL := Lib.hid htl
          have HNW := Lib.hid (fun (w : World) (hb : Below W.heap.size W w) => holdsI_list ((holdsI_take HE.out n).below hb (Nat.le_refl _)))
          have nl9 : n ≤ 1000000000 := by have := HL.out; omega
          have HQL := Lib.hid hql
          have HQ65 := Lib.hid (show dq.length ≤ 65535 by rw [hql]; omega)
          have hm1 : ¬ me = 0 := by have := HME.out; omega
          have hm2 : n ≤ me := by have := HME.out; omega
          have hm3 : q ≤ md9 := by have := HMD.out; omega
          have hn2 : (0 : Int) < (n : Int) := by omega
          have wn1 : IntKind.i64.wrap ((n : Int) - 1) = (n1 : Int) := by have := HL.out; rw [IntWalk.i64_left]; unfold wrap64; omega
          have HN1 := Lib.hid hn1
          clear ks kb hcn hr htl hql hpv hq0 hq1 hq hn0 hn1 v1 v2 v3 v4 v5 v6 hqd h2
          go_enter Tryd.func13, Tryd.ntmps13
          go_wp2_with (first | (go_at_call 11; (with_reducible refine k.mono ?_); rintro e w1 ⟨rfl, hb⟩; have B1 := Lib.hid (show Below WA.heap.size WA w1 by rw [HWA.out]; exact hb); have CB1 := Lib.hid (HCB.out.below B1.out); have RB1 := Lib.hid (HRB.out.below B1.out); have x0 := CB1.out.cell 0; have x1 := CB1.out.cell 1; have x2 := CB1.out.cell 2; have y1 := ((CB1.out.alloc (.cells #[.int .i64 pl, .slice none 0 0, .slice none 0 0] 25)).alloc (.cells #[] 3)).cell 1; have b0 := RB1.out.cell 0; have b1 := RB1.out.cell 1; have b2 := RB1.out.cell 2; have f0 := RB1.out.free 0; have f1 := RB1.out.free 1; have f2 := RB1.out.free 2; clear hb) | (at_builtin; refine wpList_append_own_at _ rfl _ _ 22 rfl (w1.alloc (.cells #[.int .i64 pl, .slice none 0 0, .slice none 0 0] 25)).heap.size 3 i0 (.int .i64 0) 1 8 Tryd.underlying22 hi9 hz0 hz1 hz2 rfl (by decide) (.slice (some ⟨w1.heap.size + 1, 0, none⟩) 0 0) 0 [] rfl (by have := World.ownsRow_made (e := 3) (size := 1) (w1.alloc (.cells #[.int .i64 pl, .slice none 0 0, .slice none 0 0] 25)) #[] 0 (Nat.le_refl _) (by decide) (by simp); rw [alloc_size] at this ⊢; exact this) ⟨be, oe, none⟩ n me ((E.take n).map (Value.int .i64)) rfl (by rw [List.length_map, HTL.out]; simp) (HNW.out _ (below_alloc (below_alloc (below_call HB.out B1.out) _) _)) (oneI _) (by unfold maxLen; omega) (by omega) (by simp) ?_))
          intro v2 w2 hO2 hg2 _ _
          obtain ⟨s2, m2, rfl⟩ := own_slice hO2
          have hO2' : w2.ownsRow (w1.alloc (.cells #[.int .i64 pl, .slice none 0 0, .slice none 0 0] 25)).heap.size 3 1 (.slice s2 n m2) (E.take n).length ((E.take n).map (Value.int .i64)) := by rw [HTL.out]; simpa using hO2
          have hb2 : Below (w1.alloc (.cells #[.int .i64 pl, .slice none 0 0, .slice none 0 0] 25)).heap.size (w1.alloc (.cells #[.int .i64 pl, .slice none 0 0, .slice none 0 0] 25)) w2 := (below_alloc (Below.refl _ _) (.cells #[] 3)).grown hg2 (by simp) (fun k hk => by simp [Value.ownBlock] at hk; rw [alloc_size]; omega)
          have O2 := Lib.hid hO2'
          have B2 := Lib.hid hb2
          have CB2 := Lib.hid ((CB1.out.alloc (.cells #[.int .i64 pl, .slice none 0 0, .slice none 0 0] 25)).below hb2)
          have TB2 := Lib.hid ((Blk.new w1 25 #[.int .i64 pl, .slice none 0 0, .slice none 0 0]).below hb2)
          have RB2 := Lib.hid ((RB1.out.alloc (.cells #[.int .i64 pl, .slice none 0 0, .slice none 0 0] 25)).below hb2)
          have W2B := Lib.hid (below_call (below_alloc (below_call HB.out B1.out) _) hb2)
          have t1 := TB2.out.cell 1
          have g1 := TB2.out.free 1
          clear hO2 hO2' hg2 hb2
          go_wp2_with fail
          have hlt1 : W.heap.size + 2 < w1.heap.size := RB1.out.lt
          have hs1 : (w1.alloc (.cells #[.int .i64 pl, .slice none 0 0, .slice none 0 0] 25)).heap.size = w1.heap.size + 1 := by simp
          have hs2 : w1.heap.size + 1 ≤ w2.heap.size := by have := B2.out.size; rw [hs1] at this; exact this
          have CB3 := CB2.out.far (p := ⟨w1.heap.size, 1, none⟩) (by show W.heap.size ≠ w1.heap.size; omega) (.slice s2 n m2)
          have RB3 := RB2.out.far (p := ⟨w1.heap.size, 1, none⟩) (by show W.heap.size + 2 ≠ w1.heap.size; omega) (.slice s2 n m2)
          have TB3 : Blk (w2.setCell ⟨w1.heap.size, 1, none⟩ (.slice s2 n m2)) w1.heap.size 25 #[.int .i64 pl, .slice s2 n m2, .slice none 0 0] := TB2.out.set 1 _
          have W3B := W2B.out.setCell (p := ⟨w1.heap.size, 1, none⟩) (by show W.heap.size ≤ w1.heap.size; omega) (.slice s2 n m2)
          have hE3 : ∀ k, k ≠ w1.heap.size → (w2.setCell ⟨w1.heap.size, 1, none⟩ (.slice s2 n m2)).heap[k]? = w2.heap[k]? := fun k hk => Below.heap_setCell _ _ _ k hk
          have hs3 : (w2.setCell ⟨w1.heap.size, 1, none⟩ (.slice s2 n m2)).heap.size = w2.heap.size := by simp [World.setCell]
          generalize hw3 : w2.setCell ⟨w1.heap.size, 1, none⟩ (.slice s2 n m2) = w3 at *
          have HW3 := Lib.hid hw3
          have CBX := CB3.alloc (.cells #[] 5)
          have c0 := HCN.out (w3.alloc (.cells #[] 5)) (below_alloc W3B _)
          have x1 := CBX.cell 1
          have x2 := CBX.cell 2
          have x0 := CBX.cell 0
          have c09 := HCN.out w3 W3B
          have x19 := CB3.cell 1
          have x29 := CB3.cell 2
          have x09 := CB3.cell 0
          have HX := Lib.hid (show (w3.alloc (.cells #[] 5)).drew.ownsRow w3.heap.size 5 1 (.slice (some ⟨w3.heap.size, 0, none⟩) 0 0) 0 [] from own_below (World.ownsRow_made (e := 5) (size := 1) w3 #[] 0 (Nat.le_refl _) (by decide) (by simp)) (Below.refl _ _).drew)
          have HTB3 := Lib.hid TB3
          have HRB3 := Lib.hid RB3
          have HE3 := Lib.hid hE3
          have HS3 := Lib.hid hs3
          have HS2 := Lib.hid hs2
          have HS1 := Lib.hid hs1
          have HLT1 := Lib.hid hlt1
          have W3 := Lib.hid W3B
          have hi2 : (n1 : Int) < (E.length : Int) := by omega
          have hi0 : (0 : Int) ≤ (n1 : Int) := by omega
          have hq9 : (0 : Int) ≤ (q : Int) := by omega
          have hqm : (q : Int) ≤ (md9 : Int) := by omega
          clear TB3 RB3 hE3 hs3 hs2 hs1 hlt1 hw3 CB3 CBX b0 b1 b2 f0 f1 f2 y1 t1 g1
          have HDX := Lib.hid (show HoldsB (w3.alloc (.cells #[] 5)).drew sd dq by rw [HDQ.out]; exact (HD.out.take q).call (below_alloc W3B (.cells #[] 5)).drew)
          have HDN2 := Lib.hid (show sd = none → dq = [] ∧ md9 = 0 from fun h => by obtain ⟨h1, h2⟩ := HDN.out h; rw [HDQ.out, h1]; exact ⟨by simp, h2⟩)
          have FQ := Lib.hid (show 0 + dq.length ≤ maxLen ∧ (0 + dq.length) * 1 ≤ 140737488355328 from by have := HQ65.out; exact ⟨by unfold maxLen; omega, by omega⟩)
          clear W3B
          go_region_law (first | (refine step_append_opt (.tmp 39) (.tmp 48) w3.heap.size _ 0 [] (by rfl) HX.out sd dq md9 (by rw [HQL.out]; rfl) HDX.out HDN2.out FQ.out.1 FQ.out.2 (by simp) (by rfl) (by rfl) ?_; intro v4 w4 hO hg; have hO4 : w4.ownsRow w3.heap.size 5 1 v4 dq.length (dq.map (Value.int .u8)) := (by simpa using hO); have hb4 : Below w3.heap.size w3 w4 := ((below_alloc (Below.refl _ w3) (.cells #[] 5)).drew).grown hg (by simp) (fun k hk => by simp [Value.ownBlock] at hk; omega); obtain ⟨s4, m4, rfl⟩ := own_slice hO4; have O4 := Lib.hid hO4; have B4 := Lib.hid hb4; have TB4 := Lib.hid (HTB3.out.below hb4); have t0 := TB4.out.cell 0; have t1 := TB4.out.cell 1; have t2 := TB4.out.cell 2; have g0 := TB4.out.free 0; have g1 := TB4.out.free 1; have g2 := TB4.out.free 2; have RB4 := Lib.hid (HRB3.out.below hb4); have b0 := RB4.out.cell 0; have b1 := RB4.out.cell 1; have b2 := RB4.out.cell 2; have f0 := RB4.out.free 0; have f1 := RB4.out.free 1; have f2 := RB4.out.free 2; clear hO hg hO4 hb4) | (refine wp_append_opt (.tmp 39) (.tmp 48) w3.heap.size _ 0 [] (by rfl) HX.out sd dq md9 (by rw [HQL.out]; rfl) HDX.out HDN2.out FQ.out.1 FQ.out.2 (by simp) (by rfl) ?_; intro v4 w4 hO hg; have hO4 : w4.ownsRow w3.heap.size 5 1 v4 dq.length (dq.map (Value.int .u8)) := (by simpa using hO); have hb4 : Below w3.heap.size w3 w4 := ((below_alloc (Below.refl _ w3) (.cells #[] 5)).drew).grown hg (by simp) (fun k hk => by simp [Value.ownBlock] at hk; omega); obtain ⟨s4, m4, rfl⟩ := own_slice hO4; have O4 := Lib.hid hO4; have B4 := Lib.hid hb4; have TB4 := Lib.hid (HTB3.out.below hb4); have t0 := TB4.out.cell 0; have t1 := TB4.out.cell 1; have t2 := TB4.out.cell 2; have g0 := TB4.out.free 0; have g1 := TB4.out.free 1; have g2 := TB4.out.free 2; have RB4 := Lib.hid (HRB3.out.below hb4); have b0 := RB4.out.cell 0; have b1 := RB4.out.cell 1; have b2 := RB4.out.cell 2; have f0 := RB4.out.free 0; have f1 := RB4.out.free 1; have f2 := RB4.out.free 2; clear hO hg hO4 hb4) | fail)
          all_goals
            have TB5 : Blk (w4.setCell ⟨w1.heap.size, 2, none⟩ (.slice s4 dq.length m4)) w1.heap.size 25 #[.int .i64 pl, .slice s2 n m2, .slice s4 dq.length m4] := TB4.out.set 2 _
            have RB5 := RB4.out.far (p := ⟨w1.heap.size, 2, none⟩) (by have := HLT1.out; show W.heap.size + 2 ≠ w1.heap.size; omega) (.slice s4 dq.length m4)
            have hE5 : ∀ k, k ≠ w1.heap.size → (w4.setCell ⟨w1.heap.size, 2, none⟩ (.slice s4 dq.length m4)).heap[k]? = w4.heap[k]? := fun k hk => Below.heap_setCell _ _ _ k hk
            have W5B : Below W.heap.size W (w4.setCell ⟨w1.heap.size, 2, none⟩ (.slice s4 dq.length m4)) := (below_call W3.out B4.out).setCell (p := ⟨w1.heap.size, 2, none⟩) (by have := HLT1.out; show W.heap.size ≤ w1.heap.size; omega) _
            clear t0 t1 t2 g0 g1 g2 b0 b1 b2 f0 f1 f2
            generalize hw5 : w4.setCell ⟨w1.heap.size, 2, none⟩ (.slice s4 dq.length m4) = w5 at *
            have t0 := TB5.cell 0
            have t1 := TB5.cell 1
            have t2 := TB5.cell 2
            have b0 := RB5.cell 0
            have b1 := RB5.cell 1
            have b2 := RB5.cell 2
            have f0 := RB5.free 0
            have f1 := RB5.free 1
            have f2 := RB5.free 2
            have HRB5 := Lib.hid RB5
            have HE5 := Lib.hid hE5
            have HW5 := Lib.hid W5B
            clear TB5 RB5 hE5 W5B hw5
            go_wp2_with fail
            (try simp only [Exit.inBlock, Exit.then])
            refine bodyPost_ret (results_coded rfl _ rfl rfl (HRB5.out.set3 _ _ _)) rfl ?_
            refine ⟨FIN.out _ _ _ _ HW5.out, .inr ⟨ht.out, .agg #[.int .i64 pl, .slice s2 n m2, .slice s4 dq.length m4], rfl, ?_, ?_⟩⟩
            · have o2 := O2.out
              rw [HTL.out] at o2
              obtain ⟨hH2, hc2, hn2'⟩ := own_capI o2
              obtain ⟨_, s', m', e9, hH4, ⟨hc4, _⟩, hn4⟩ := HoldsB.of_own O4.out
              simp at e9
              obtain ⟨rfl, rfl⟩ := e9
              have q1 : (trD E D (n : Int).toNat) = dq := by rw [Int.toNat_natCast, trD, HQ.out, Int.toNat_natCast, HDQ.out]
              rw [q1, Int.toNat_natCast]
              have hfar2 : ∀ p, s2 = some p → (((w5.setCell ⟨W.heap.size + 2, 0, none⟩ (.int .i64 pl)).setCell ⟨W.heap.size + 2, 1, none⟩ (.slice s2 n m2)).setCell ⟨W.heap.size + 2, 2, none⟩ (.slice s4 dq.length m4)).heap[p.block]? = w2.heap[p.block]? := fun p hp => by
                obtain ⟨h1, ds, h2⟩ := own_foot O2.out (k := p.block) (by rw [hp]; rfl)
                have h3 := h2.lt
                have := HS1.out
                have := HLT1.out
                have h4 : p.block ≠ W.heap.size + 2 := by omega
                have h5 : p.block ≠ w1.heap.size := by omega
                rw [Below.heap_setCell _ _ _ _ h4, Below.heap_setCell _ _ _ _ h4, Below.heap_setCell _ _ _ _ h4, HE5.out _ h5, B4.out.block _ (by show p.block < w3.heap.size; rw [HS3.out]; exact h3)]
                exact HE3.out _ h5
              have hfar4 : ∀ p, s4 = some p → (((w5.setCell ⟨W.heap.size + 2, 0, none⟩ (.int .i64 pl)).setCell ⟨W.heap.size + 2, 1, none⟩ (.slice s2 n m2)).setCell ⟨W.heap.size + 2, 2, none⟩ (.slice s4 dq.length m4)).heap[p.block]? = w4.heap[p.block]? := fun p hp => by
                obtain ⟨h1, ds, h2⟩ := own_foot O4.out (k := p.block) (by rw [hp]; rfl)
                have h1' : w3.heap.size ≤ p.block := h1
                rw [HS3.out] at h1'
                have := HS2.out
                have := HLT1.out
                have h4 : p.block ≠ W.heap.size + 2 := by omega
                have h5 : p.block ≠ w1.heap.size := by omega
                rw [Below.heap_setCell _ _ _ _ h4, Below.heap_setCell _ _ _ _ h4, Below.heap_setCell _ _ _ _ h4, HE5.out _ h5]
              refine ⟨s2, m2, s4, m4, by rw [HTL.out], holdsI_far hH2 hfar2, holdsB_far hH4 hfar4, hc2, hc4, hn2', hn4⟩
            · have := HLT1.out
              refine cvNew_mk (fun p hp => ?_) (fun p hp => ?_)
              · obtain ⟨h1, _⟩ := own_foot O2.out (k := p.block) (by rw [hp]; rfl)
                rw [HS1.out] at h1; omega
              · obtain ⟨h1, _⟩ := own_foot O4.out (k := p.block) (by rw [hp]; rfl)
                have h1' : w3.heap.size ≤ p.block := h1
                rw [HS3.out] at h1'
                have := HS2.out
                omega
  · go_enter Tryd.func13, Tryd.ntmps13
    go_wp2_with (first | (go_at_call 11; (with_reducible refine k.mono ?_); rintro e w1 ⟨rfl, hb⟩; have B1 := Lib.hid (show Below WA.heap.size WA w1 by rw [HWA.out]; exact hb); have CB1 := Lib.hid (HCB.out.below B1.out); have RB1 := Lib.hid (HRB.out.below B1.out); have x0 := CB1.out.cell 0; have x1 := CB1.out.cell 1; have x2 := CB1.out.cell 2; have b0 := RB1.out.cell 0; have b1 := RB1.out.cell 1; have b2 := RB1.out.cell 2; have f0 := RB1.out.free 0; have f1 := RB1.out.free 1; have f2 := RB1.out.free 2; clear hb))
    (try simp only [Exit.inBlock, Exit.then])
    refine bodyPost_ret (results_coded rfl _ rfl rfl (RB1.out.set3 _ _ _)) rfl ?_
    have ht : trE pl E D.length p = va := by unfold trE; rw [← HVA.out, if_pos h0]
    exact ⟨FIN.out _ _ _ _ (below_call HB.out B1.out), .inl ⟨by rw [ht]; exact h0, by rw [ht]; rfl⟩⟩
end Go.Proofs.YtklchodbnjebnaaDoor
