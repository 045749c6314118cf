/-
  For all symbols, integers and bytes the statement ArithPrefixes returns true: Size bytes suffice for the bits so far, whatever follows; the arguments read afterwards as before.
  Conditions: none beyond those of the given statement (the listed variables are tied by the card).
-/
import Derived.Test.YtbaappodeicomaaDoorLf
import Derived.Test.YtbaappodeicomaaDoorFrameP
import Derived.Test.YtbaappodeicomaaDoorTie
import Derived.Test.YtbaappodeicomaaDoorCards
import Derived.LaidMore
import Derived.Lay
import Derived.SevenTiedAt
import Derived.Stop.Joined
set_option maxRecDepth 100000
namespace Go.Proofs.YtbaappodeicomaaDoor.arithPrefixes
open Go.ChangeShapes Go.WideShapes Go.ChangeAt Go.RowKit Go.Joins Go.Deep

theorem zsN_at (x : Am.X) (l : List (Int × Int)) {L K : Nat} (h : K < L) : (zsN x l L)[K]? = some (szF (Am.run x (l.take (K + 1))).2) := by
  simp [zsN, h]
theorem szF_pos {n : Nat} {P : List Int} {l : List (Int × Int)} {K : Nat} (hx : Am.OkX (P, Am.St.init)) (hn : P.length = n) (hs : ∀ y ∈ l, Am.sym n y) (hK : K < l.length) : szF (Am.run (P, Am.St.init) (l.take (K + 1))).2 = (((Am.run (P, Am.St.init) (l.take (K + 1))).2.n + 4 : Nat) : Int) := by
  have hok := Am.run_ok (l.take K) _ hx hn (fun y hy => hs y (List.mem_of_mem_take hy))
  have hl : (Am.run (P, Am.St.init) (l.take K)).1.length = n := (Am.run_len _ _).trans hn
  have hy := hs _ (List.getElem_mem hK)
  have e : (Am.run (P, Am.St.init) (l.take (K + 1))).2 = Am.enc (Am.run (P, Am.St.init) (l.take K)).2 (Am.pr (Am.run (P, Am.St.init) (l.take K)) l[K].1) l[K].2 := by rw [take_snoc hK, Am.run_snoc]; rfl
  have hne := Am.enc_ne l[K].2 hok.st (Am.pr_prob hok hy.1 (by rw [hl]; exact hy.2.1))
  rw [← e] at hne
  unfold szF
  rw [if_neg hne]
  simp
theorem pre_all {n : Nat} {P : List Int} {l : List (Int × Int)} {N : Nat} {e : List Int} (hx : Am.OkX (P, Am.St.init)) (hn : P.length = n) (hs : ∀ y ∈ l, Am.sym n y) (he : Am.bytes e)
    (hc : ∀ i, i < (Am.run (P, Am.St.init) (l.take N)).2.n + 4 → e.getD i 0 = (Am.cw (Am.run (P, Am.St.init) l).2).getD i 0) : Am.dc (P, Am.St.init) (Am.fixd e) (l.take N) = (l.take N).length :=
  Am.prefixes (m := l.drop N) hx hn (fun y hy => hs y (List.mem_of_mem_take hy)) (fun y hy => hs y (List.mem_of_mem_drop hy)) he (by rw [List.take_append_drop]; exact hc)
theorem getD_pre {D ob : List Int} {S i : Nat} (hS : S ≤ D.length) (hi : i < S) : (D.take S ++ ob).getD i 0 = D.getD i 0 := by
  rw [List.getD_eq_getElem?_getD, List.getD_eq_getElem?_getD, List.getElem?_append_left (by simp; omega), List.getElem?_take_of_lt hi]
theorem step_append_none {P : Program} {ops : Array Oper} {o : Oper} {act : Act} {w : World} {K : Act → World → Prop} {Q : Exit → Act → World → Prop} {E : Prop} (hgd : o.guard = none) (s x : Operand) (t : TypeId)
    (ho : o.op = .call { callee := .builtin .append, args := #[s, x], argTypes := #[t, t] })
    (base : Nat) (e : TypeId) (i : TypeInfo) (size : Nat) (ht : P.underlying t = some (.slice e)) (hi : P.info? e = some i)
    (v : Value) (n : Nat) (xs : List Value) (hs : act.eval s = v) (hown : w.ownsRow base e size v n xs) (hx : act.eval x = .slice none 0 0)
    (h : K (act.put o.dst v) w) : if Region.wanted o (yielded ops act.tmps) = true then Oper.wp P o act w K Q else E := by
  have hw : Region.wanted o (yielded ops act.tmps) = true := by simp [Region.wanted, hgd]
  rw [if_pos hw]
  have hrun := run_append_owned_none (P := P) (w := w) base t o.type e i size ht hi v n xs hown
  unfold Oper.wp
  simp [execOp, ho, resolve, invoke, builtin, hs, hx, hrun, Result.andThen]
  exact h
theorem wp_append_opt {o : Oper} {act : Act} {w : World} {K : Act → World → Prop} {Q : Exit → Act → World → Prop} (s x : Operand)
    (base : Nat) (v : Value) (n : Nat) (xs : List Value) (hs : act.eval s = v) (hown : w.ownsRow base 5 1 v n xs) (so : Option Addr) (ob : List Int) (mo : Nat) (hx : act.eval x = .slice so ob.length mo) (hH : HoldsB w so ob) (hn0 : so = none → ob = [] ∧ mo = 0)
    (h1 : n + ob.length ≤ maxLen) (h2 : (n + ob.length) * 1 ≤ 140737488355328) (hb : base ≤ w.heap.size) (ho : o.op = .call { callee := .builtin .append, args := #[s, x], argTypes := #[34, 34] })
    (h : ∀ v' w', w'.ownsRow base 5 1 v' (n + ob.length) (xs ++ ob.map (Value.int .u8)) → w.grownBy w' v.ownBlock → K (act.put o.dst v') w') : Oper.wp Tryd.prog o act w K Q := by
  obtain ⟨i0, hi, hz0, hz1, hz2⟩ := info_parts info8
  cases so with
  | some po => exact wp_append_own w s x 34 ho base 5 i0 (.int .u8 0) 1 1 Tryd.underlying34 hi hz0 hz1 hz2 rfl (by decide) v n xs hs hown po ob.length mo (ob.map (Value.int .u8)) hx (by simp) (fun j x hx => holdsB_list hH j x hx) (one8 _) h1 h2 hb fun v' w' h2 h3 _ => h v' w' h2 h3
  | none =>
    obtain ⟨rfl, rfl⟩ := hn0 rfl
    have hx' : act.eval x = .slice none 0 0 := hx
    have hrun := run_append_owned_none (P := Tryd.prog) (w := w) base 34 o.type 5 i0 1 Tryd.underlying34 hi v n xs hown
    unfold Oper.wp
    simp [execOp, ho, resolve, invoke, builtin, hs, hx', hrun, Result.andThen]
    exact h v w (by simpa using hown) ⟨rfl, rfl, rfl, Nat.le_refl _, fun _ _ _ => rfl⟩
theorem step_append_opt {ops : Array Oper} {o : Oper} {act : Act} {w : World} {K : Act → World → Prop} {Q : Exit → Act → World → Prop} {E : Prop} (s x : Operand)
    (base : Nat) (v : Value) (n : Nat) (xs : List Value) (hs : act.eval s = v) (hown : w.ownsRow base 5 1 v n xs) (so : Option Addr) (ob : List Int) (mo : Nat) (hx : act.eval x = .slice so ob.length mo) (hH : HoldsB w so ob) (hn0 : so = none → ob = [] ∧ mo = 0)
    (h1 : n + ob.length ≤ maxLen) (h2 : (n + ob.length) * 1 ≤ 140737488355328) (hb : base ≤ w.heap.size) (ho : o.op = .call { callee := .builtin .append, args := #[s, x], argTypes := #[34, 34] }) (hw : Region.wanted o (yielded ops act.tmps) = true)
    (h : ∀ v' w', w'.ownsRow base 5 1 v' (n + ob.length) (xs ++ ob.map (Value.int .u8)) → w.grownBy w' v.ownBlock → K (act.put o.dst v') w') : if Region.wanted o (yielded ops act.tmps) = true then Oper.wp Tryd.prog o act w K Q else E := by
  rw [if_pos hw]
  exact wp_append_opt s x base v n xs hs hown so ob mo hx hH hn0 h1 h2 hb ho h
/-- Behind the first decoding: the cut bytes, the other decoder. -/
def Aft (w W4 : World) (g : Nat) (P T : List Int) (v : Value) (S : Nat) (x : World) : Prop := x.ownsRow W4.heap.size 5 1 v S (T.map (Value.int .u8)) ∧ Dk0 x w.heap.size g P ∧ (∀ k, Fp x g k → k < W4.heap.size) ∧ W4.heap.size ≤ x.heap.size
theorem aft {w W4 W6 x : World} {b g S : Nat} {P Pb T : List Int} {v : Value} (hr : W6.ownsRow W4.heap.size 5 1 v S (T.map (Value.int .u8))) (hg : Dk0 W4 w.heap.size g P) (hb : Dk0 W4 w.heap.size b Pb) (hj : Dj W4 b g) (hB : Below W4.heap.size W4 W6) (hK : Kp b W6 x) : Aft w W4 g P T v S x := by
  have hfb : ∀ k, Fp W6 b k → k < W4.heap.size := fun k hk => hb.fl k ((fp_same (hB.block b hb.lt) k).1 hk)
  have hg6 := hg.below hB
  have hj6 := hj.below hB hb.lt hg.lt
  have hgx : ∀ k, Fp W6 g k → x.heap[k]? = W6.heap[k]? := (hj6.kp hK hg6.fl).2
  refine ⟨own_keep hr fun k hk => hK.block k ?_ fun hf => ?_, hg6.keep hgx, fun k hk => ?_, Nat.le_trans hB.size hK.size⟩
  · obtain ⟨_, ds, h⟩ := own_foot hr hk; exact h.lt
  · have := (own_foot hr hk).1; have := hfb k hf; omega
  · exact hg.fl k ((fp_same (hB.block g hg.lt) k).1 ((fp_same (hgx g (.inl rfl)) k).1 hk))
theorem aft2 {w W4 x w8 : World} {g S : Nat} {P T ob : List Int} {v v2 : Value} (h : Aft w W4 g P T v S x) (hB : Below w.heap.size w x) (hw : w.heap.size ≤ W4.heap.size) (hS : T.length = S) (hgr : x.grownBy w8 v.ownBlock) (hown : w8.ownsRow W4.heap.size 5 1 v2 (S + ob.length) (T.map (Value.int .u8) ++ ob.map (Value.int .u8))) :
    ∃ s8 m8, v2 = .slice s8 (S + ob.length) m8 ∧ HoldsB w8 s8 (T ++ ob) ∧ (s8 = none → T ++ ob = [] ∧ m8 = 0) ∧ Dk0 w8 w.heap.size g P ∧ Below w.heap.size w w8 := by
  obtain ⟨h1, h2, h3, h4⟩ := h
  have hle : ∀ k, v.ownBlock = some k → W4.heap.size ≤ k := fun k hk => (own_foot h1 hk).1
  have hown' : w8.ownsRow W4.heap.size 5 1 v2 (T ++ ob).length ((T ++ ob).map (Value.int .u8)) := by rw [List.length_append, hS, List.map_append]; exact hown
  obtain ⟨_, s6, m6, rfl, hH6, _, hN6⟩ := HoldsB.of_own hown'
  refine ⟨s6, m6, by rw [List.length_append, hS], hH6, hN6, h2.keep fun k hk => hgr.block k (h2.fl k hk) fun e => ?_, hB.grown hgr (by omega) fun k hk => by have := hle k hk; omega⟩
  have := hle k e.symm; have := h3 k hk; omega
theorem aft3 {w W4 x : World} {g S : Nat} {P T : List Int} {s5 : Option Addr} {m5 : Nat} (h : Aft w W4 g P T (.slice s5 S m5) S x) (hS : T.length = S) : HoldsB x s5 T ∧ (s5 = none → T = [] ∧ m5 = 0) ∧ Dk0 x w.heap.size g P := by
  obtain ⟨h1, h2, h3, h4⟩ := h
  rw [← hS] at h1
  obtain ⟨_, s6, m6, he, hH6, _, hN6⟩ := HoldsB.of_own h1
  simp at he
  obtain ⟨rfl, rfl⟩ := he
  exact ⟨hH6, hN6, h2⟩
set_option maxHeartbeats 8000000 in
theorem walk (l : List (Int × Int)) (s : Option Addr) (m : Nat) (n : Int) (ob : List Int) (so : Option Addr) (mo : Nat) (w : World) (h : HoldsP w s l) (hm0 : l.length ≤ m) (hO : HoldsB w so ob) (hY : Am.bytes ob) (hn0 : so = none → ob = [] ∧ mo = 0) :
    Calls Tryd.prog 7 #[.slice s l.length m, .int .i64 n, .slice so ob.length mo] w fun e w' => e = .returned (.bool true) ∧ Below w.heap.size w w' := by
  have hb1 := bits11_c l s m 20 w h
  cases hq1 : symsB l 20 with
  | false =>
    rw [hq1] at hb1
    clear hq1
    go_enter Tryd.func7, Tryd.ntmps7
    go_wp2_with (first | (go_at_call 40; (with_reducible refine hb1.mono ?_); rintro e wn ⟨rfl, rfl⟩))
    refine (awake11_c _).mono ?_
    rintro e w2 ⟨rfl, hb2⟩
    go_wp2_with fail
    go_ret
    exact ⟨rfl, hb2⟩
  | true =>
  rw [hq1] at hb1
  obtain ⟨⟨hl, _, _⟩, hp⟩ := (symsB_iff l 20).1 hq1
  by_cases h6 : n < 1
  · clear hq1 hp
    go_enter Tryd.func7, Tryd.ntmps7
    go_wp2_with (first | (go_at_call 40; (with_reducible refine hb1.mono ?_); rintro e wn ⟨rfl, rfl⟩))
    refine (awake11_c _).mono ?_
    rintro e w2 ⟨rfl, hb2⟩
    go_wp2_with fail
    go_ret
    exact ⟨rfl, hb2⟩
  by_cases h6b : (l.length : Int) < n
  · clear hq1 hp
    go_enter Tryd.func7, Tryd.ntmps7
    go_wp2_with (first | (go_at_call 40; (with_reducible refine hb1.mono ?_); rintro e wn ⟨rfl, rfl⟩))
    refine (awake11_c _).mono ?_
    rintro e w2 ⟨rfl, hb2⟩
    go_wp2_with fail
    go_ret
    exact ⟨rfl, hb2⟩
  by_cases h5 : 300 < ob.length
  · have h6c : (300 : Int) < (ob.length : Int) := by omega
    clear hq1 hp
    go_enter Tryd.func7, Tryd.ntmps7
    go_wp2_with (first | (go_at_call 40; (with_reducible refine hb1.mono ?_); rintro e wn ⟨rfl, rfl⟩))
    refine (awake11_c _).mono ?_
    rintro e w2 ⟨rfl, hb2⟩
    go_wp2_with fail
    go_ret
    exact ⟨rfl, hb2⟩
  have hob : ob.length ≤ 300 := by omega
  obtain ⟨K, rfl⟩ : ∃ K : Nat, n = ((K + 1 : Nat) : Int) := ⟨(n - 1).toNat, by omega⟩
  have hK : K < l.length := by omega
  have HS := Lib.hid (symsP_sym (n := 20) hp)
  obtain ⟨bs0, of0, rfl, _⟩ := h.at hK
  have H := Lib.hid h
  have HO := Lib.hid hO
  have HYO := Lib.hid hY
  have HNO := Lib.hid hn0
  clear hq1 hp h hO hY hn0 h5 h6 h6b
  go_enter Tryd.func7, Tryd.ntmps7
  go_wp2_with (first | (go_at_call 40; (with_reducible refine hb1.mono ?_); rintro e wn ⟨rfl, rfl⟩))
  refine (enew_y 20 _ (by decide) (by decide)).mono ?_
  rintro e W1 ⟨a, rfl, hE1, hB1⟩
  clear hb1
  go_wp2_with fail
  refine (dnew_y 20 _ (by decide) (by decide)).mono ?_
  rintro e W2 ⟨b, rfl, hD2, hB2⟩
  go_wp2_with fail
  refine (dnew_y 20 _ (by decide) (by decide)).mono ?_
  rintro e W3 ⟨g, rfl, hD3, hB3⟩
  have hE2 : Ec W2 w.heap.size a (x0 20) := hE1.below hB2
  have hJ2 : Dj W2 a b := Dj.new hB2 hE1.fl (fun k hk => (hD2.fp k hk).1)
  have HB2 : Below w.heap.size w W2 := below_call hB1 hB2
  have HE : Hid (Ec W3 w.heap.size a (x0 20)) := hE2.below hB3
  have HD : Hid (Dk0 W3 w.heap.size b (List.replicate 20 2048)) := (hD2.any.lower hB1.size).below hB3
  have HG : Hid (Dk0 W3 w.heap.size g (List.replicate 20 2048)) := hD3.any.lower HB2.size
  have HJ : Hid (Dj W3 a b) := hJ2.below hB3 hE2.lt hD2.any.lt
  have HJg : Hid (Dj W3 a g) := Dj.new hB3 hE2.fl (fun k hk => (hD3.fp k hk).1)
  have HJb : Hid (Dj W3 b g) := Dj.new hB3 hD2.fl (fun k hk => (hD3.fp k hk).1)
  have HB : Hid (Below w.heap.size w W3) := below_call HB2 hB3
  clear hE1 hB1 hD2 hB2 hD3 hB3 hE2 hJ2 HB2
  have hlen : (List.replicate 20 (2048 : Int)).length = 20 := List.length_replicate
  have HX : Hid (Am.OkX (List.replicate 20 2048, Am.St.init)) := x0_ok 20
  have HPRE : Hid (∀ e : List Int, Am.bytes e → (∀ i, i < (Am.run (List.replicate 20 2048, Am.St.init) (l.take (K + 1))).2.n + 4 → e.getD i 0 = (Am.cw (Am.run (List.replicate 20 2048, Am.St.init) l).2).getD i 0) → Am.dc (List.replicate 20 2048, Am.St.init) (Am.fixd e) (l.take (K + 1)) = (l.take (K + 1)).length) := fun e he hc => pre_all HX.out hlen HS.out he hc
  have hw1 := cw_small HX.out hlen HS.out hl
  have hsz := szF_pos HX.out hlen HS.out hK
  have hzl := zsN_len (List.replicate 20 2048, Am.St.init) l l.length
  have hza := zsN_at (List.replicate 20 2048, Am.St.init) l hK
  rw [hsz] at hza
  have hY1 := Lib.hid (Am.cw_bytes (Am.run (List.replicate 20 2048, Am.St.init) l).2)
  have htk : (l.take (K + 1)).length = K + 1 := by simp; omega
  have hsN : Hid ((Am.run (List.replicate 20 2048, Am.St.init) (l.take (K + 1))).2.n ≤ 2000) := by
    have := (Am.run_n (l.take (K + 1)) _ HX.out hlen (fun y hy => HS.out y (List.mem_of_mem_take hy))).2
    have h3 : (List.replicate 20 (2048 : Int), Am.St.init).2.n = 0 := rfl
    show _ ≤ _
    omega
  have he1 := encoded_c w W3 a 20 (List.replicate 20 2048, Am.St.init) l _ m HE.out HB.out H.out HX.out hlen (by decide) HS.out (Nat.zero_le _) hl
  unfold EncDone at he1
  have hd1 : Hid (∀ c W u p D, Dk0 W w.heap.size c (List.replicate 20 2048) → Below w.heap.size w W → HoldsB W u D → (u = none → D = [] ∧ p = 0) → Am.bytes D → D.length ≤ 3000 → Am.dc (List.replicate 20 2048, Am.St.init) (Am.fixd D) (l.take (K + 1)) = (l.take (K + 1)).length → Calls Tryd.prog 42 #[.pointer (some ⟨c, 0, none⟩), .slice (some ⟨bs0, of0, none⟩) (K + 1) m, .slice u D.length p] W (fun e w' => e = .returned (.int .i64 ((K : Int) + 1)) ∧ (∃ P', Dk0 w' w.heap.size c P') ∧ Kp c W w' ∧ Below w.heap.size w w')) := fun c W u p D hD hB hH hn hY hDl hdc => by
    have := decoded_c w W c 20 _ _ (l.take (K + 1)) _ u m p hD hB (H.out.take (K + 1)) HX.out hlen (by decide) (fun y hy => HS.out y (List.mem_of_mem_take hy)) (by omega) hH hn hY (by omega)
    unfold DecDone at this
    rw [hdc, htk] at this
    refine this.mono ?_
    rintro e w' ⟨h1, ⟨P', h2, _⟩, h3, h4⟩
    exact ⟨by rw [h1]; simp, ⟨P', h2⟩, h3, h4⟩
  generalize hg1 : Am.cw (Am.run (List.replicate 20 2048, Am.St.init) l).2 = D1 at he1 hw1 HPRE hY1
  generalize hgz : zsN (List.replicate 20 2048, Am.St.init) l l.length = Z at he1 hzl hza
  generalize hgn : (Am.run (List.replicate 20 2048, Am.St.init) (l.take (K + 1))).2.n + 4 = S at HPRE hza
  have hS2 : S ≤ 2004 := by have := hsN.out; omega
  clear hg1 hgz hgn hsz hsN htk
  go_wp2_with fail
  refine he1.mono ?_
  rintro e W4 ⟨sl, ml, ss, p, rfl, hH, hm, hq, hN, hE⟩
  have HH := Lib.hid hH
  have HN4 := Lib.hid hN
  have HB4 := Lib.hid hE.out
  have KB4 := Lib.hid (HD.out.kp HJ.out hE.kp).1
  have KG4 := Lib.hid (HG.out.kp HJg.out hE.kp).1
  have JBG4 : Hid (Dj W4 b g) := fun k x y => HJb.out k ((fp_same ((HJ.out.kp hE.kp HD.out.fl).2 b (.inl rfl)) k).1 x) ((fp_same ((HJg.out.kp hE.kp HG.out.fl).2 g (.inl rfl)) k).1 y)
  have hrow := hE.row
  rw [hzl] at hrow
  obtain ⟨gz, rfl, cz, _⟩ := own_at hrow K hK
  have cz2 : W4.cell? ⟨gz, K, none⟩ = some (.int .i64 (S : Int)) := by rw [cz, List.getElem?_map, hza]; rfl
  have hwW : w.heap.size ≤ W4.heap.size := HB4.out.size
  clear he1 hH hq hN hE hrow cz hza hzl HJ HJg HJb HD HG HE HB
  by_cases hcase : D1.length ≤ S
  · have hcI : (D1.length : Int) ≤ (S : Int) := by omega
    have hd := hd1.out b W4 sl ml D1 KB4.out HB4.out HH.out HN4.out hY1.out (by omega) (HPRE.out D1 hY1.out fun _ _ => rfl)
    go_wp2_with fail
    refine hd.mono ?_
    rintro e W5 ⟨rfl, _, _, hB5⟩
    go_wp2_with fail
    refine (awake11_c _).mono ?_
    rintro e w7 ⟨rfl, hb7⟩
    go_wp2_with fail
    go_ret
    exact ⟨rfl, below_call hB5 hb7⟩
  have hSl : S < D1.length := by omega
  have hcI : ¬ ((D1.length : Int) ≤ (S : Int)) := by omega
  obtain ⟨b1, off1, rfl, _⟩ := HH.out.at (k := 0) (by omega)
  have hSm : S ≤ ml := by omega
  obtain ⟨i0, hi, hz0, hz1, hz2⟩ := info_parts info8
  have HHT := Lib.hid (HH.out.take S)
  have htl : (D1.take S).length = S := by simp; omega
  have HYT : Hid (Am.bytes (D1.take S)) := Am.bytes_take hY1.out S
  have HPT : Hid (∀ o : List Int, Am.bytes o → Am.dc (List.replicate 20 2048, Am.St.init) (Am.fixd (D1.take S ++ o)) (l.take (K + 1)) = (l.take (K + 1)).length) := fun o ho => HPRE.out _ (Am.bytes_app HYT.out ho) fun i hi => getD_pre (by omega) hi
  obtain ⟨T, hT⟩ : ∃ T, T = D1.take S := ⟨_, rfl⟩
  rw [← hT] at htl HHT HYT HPT
  have HTL := Lib.hid htl
  have HNT := Lib.hid (fun X => holdsB_list (HHT.out.call ((Below.refl W4.heap.size W4).alloc (Nat.le_refl _) X)))
  have HA := Lib.hid (fun X => (Below.refl W4.heap.size W4).alloc (Nat.le_refl _) X)
  have hT1 : (T.map (Value.int .u8)).length = S * 1 := by simp [htl]
  clear hT htl HPRE
  go_upto_region 16 with fail
  go_cut [16] (fun s16 wx => ∃ s5 m5, s16 = .slice s5 S m5 ∧ Hid (wx.ownsRow W4.heap.size 5 1 (.slice s5 S m5) S (T.map (Value.int .u8))) ∧ Hid (Below W4.heap.size W4 wx))
  case first =>
    go_wp2_with (first | (at_builtin; refine wpList_append_own_at _ rfl _ _ 34 rfl W4.heap.size 5 i0 (.int .u8 0) 1 1 Tryd.underlying34 hi hz0 hz1 hz2 rfl (by decide) _ 0 [] rfl (World.ownsRow_made W4 #[] 0 (Nat.le_refl _) (by decide) (by simp)) ⟨b1, off1, none⟩ S ml (T.map (Value.int .u8)) rfl hT1 (HNT.out _) (one8 T) (by unfold maxLen; omega) (by omega) (by simp) ?_))
    intro v' w5 hown hgrow _ hat
    have hown5 : Hid (w5.ownsRow W4.heap.size 5 1 v' S (T.map (Value.int .u8))) := by show w5.ownsRow _ _ _ _ _ _; simpa using hown
    have hb5 : Hid (Below W4.heap.size W4 w5) := (HA.out _).grown hgrow (by simp) (fun k hk => by simp [Value.ownBlock] at hk; omega)
    obtain ⟨s5, m5, rfl⟩ := own_slice hown5.out
    clear hown hgrow hat
    go_wp2_with fail
    go_meet
    exact ⟨s5, m5, rfl, hown5, hb5⟩
  case rest =>
    obtain ⟨s5, m5, rfl, hown5, hb5⟩ := hcut
    obtain ⟨w5, rfl⟩ : ∃ w5 : World, w5 = wc := ⟨_, rfl⟩
    have HR6 : Hid (w5.drew.ownsRow W4.heap.size 5 1 (.slice s5 S m5) S (T.map (Value.int .u8))) := own_below hown5.out (Below.refl _ _).drew
    have HB6 : Hid (Below W4.heap.size W4 w5.drew) := hb5.out.drew
    have hfr := aft3 (x := w5.drew) (aft HR6.out KG4.out KB4.out JBG4.out HB6.out (Kp.refl b _)) HTL.out
    have hdd := hd1.out b w5.drew s5 m5 T (KB4.out.below HB6.out) (below_call HB4.out HB6.out) hfr.1 hfr.2.1 HYT.out (by have := HTL.out; omega) (by have := HPT.out [] Am.bytes_nil; rwa [List.append_nil] at this)
    rw [HTL.out] at hdd
    have AFT : Hid (∀ x, Kp b w5.drew x → Aft w W4 g (List.replicate 20 2048) T (.slice s5 S m5) S x) := fun x hK => aft HR6.out KG4.out KB4.out JBG4.out HB6.out hK
    clear hown5 hfr
    have hKm0 : (0 : Int) ≤ (K : Int) + 1 := by omega
    have hKm1 : (K : Int) + 1 ≤ (m : Int) := by omega
    have AF2 : Hid (∀ x w8 v2, Aft w W4 g (List.replicate 20 2048) T (.slice s5 S m5) S x → Below w.heap.size w x → x.grownBy w8 (Value.slice s5 S m5).ownBlock → w8.ownsRow W4.heap.size 5 1 v2 (S + ob.length) (T.map (Value.int .u8) ++ ob.map (Value.int .u8)) →
      ∃ s8 m8, v2 = .slice s8 (S + ob.length) m8 ∧ HoldsB w8 s8 (T ++ ob) ∧ (s8 = none → T ++ ob = [] ∧ m8 = 0) ∧ Dk0 w8 w.heap.size g (List.replicate 20 2048) ∧ Below w.heap.size w w8) := fun x w8 v2 h hB hgr ho => aft2 h hB hwW HTL.out hgr ho
    have HDG : Hid (∀ W u p, Dk0 W w.heap.size g (List.replicate 20 2048) → Below w.heap.size w W → HoldsB W u (T ++ ob) → (u = none → T ++ ob = [] ∧ p = 0) → Calls Tryd.prog 42 #[.pointer (some ⟨g, 0, none⟩), .slice (some ⟨bs0, of0, none⟩) (K + 1) m, .slice u (S + ob.length) p] W (fun e w' => e = .returned (.int .i64 ((K : Int) + 1)) ∧ (∃ P', Dk0 w' w.heap.size g P') ∧ Kp g W w' ∧ Below w.heap.size w w')) := fun W u p hD hB hH hn => by
      have := hd1.out g W u p (T ++ ob) hD hB hH hn (Am.bytes_app HYT.out HYO.out) (by rw [List.length_append, HTL.out]; omega) (HPT.out ob HYO.out)
      rwa [List.length_append, HTL.out] at this
    have F : Hid (S + ob.length ≤ maxLen ∧ (S + ob.length) * 1 ≤ 140737488355328) := ⟨by unfold maxLen; omega, by omega⟩
    obtain ⟨q, CL0⟩ : ∃ q, ∀ x, Below w.heap.size w x → x.cell? ⟨bs0, of0, none⟩ = some q := by
      obtain ⟨b', o', he, h0, _⟩ := H.out.at (k := 0) (by omega)
      simp at he
      obtain ⟨rfl, rfl⟩ := he
      simp at h0
      exact ⟨_, fun x hB => (hB.cell (p := ⟨bs0, of0, none⟩) (cell_lt h0)).trans h0⟩
    have CL := Lib.hid CL0
    have c5 := CL0 w5 (below_call HB4.out hb5.out)
    have c6 := CL0 w5.drew (below_call HB4.out HB6.out)
    clear CL0 hb5
    clear hm hSl hS2 hSm hT1 hcI hw1 hcase hi hz0 hz1 hz2 cz2 hd1 HH HHT HN4 hY1 HNT HA HPT HYT
    go_wp2_with fail
    go_region_held3 (fun w' => w'.cell? ⟨bs0, of0, none⟩ = some q)
      (first | (with_reducible exact c5) | (with_reducible exact c6) | (with_reducible exact c7) | (with_reducible exact c8) | (with_reducible exact c9) | (with_reducible exact c10) | fail)
      (first | (refine step_append_opt (.tmp 109) (.tmp 110) W4.heap.size _ S _ (by rfl) A7.out.1 so ob mo (by rfl) (HO.out.below B7.out (Nat.le_refl _)) HNO.out F.out.1 F.out.2 A7.out.2.2.2 (by rfl) (by rfl) ?_; intro v2 w8 hown2 hgr2; obtain ⟨s8, m8, rfl, hH8, hN8, hG8, hB8⟩ := AF2.out _ _ _ A7.out B7.out hgr2 hown2; have H8 := Lib.hid hH8; have N8 := Lib.hid hN8; have G8 := Lib.hid hG8; have B8 := Lib.hid hB8; have c8 := CL.out _ hB8; clear hgr2 hown2 hH8 hN8 hG8 hB8) | (refine wp_append_opt (.tmp 109) (.tmp 110) W4.heap.size _ S _ (by rfl) A7.out.1 so ob mo (by rfl) (HO.out.below B7.out (Nat.le_refl _)) HNO.out F.out.1 F.out.2 A7.out.2.2.2 (by rfl) ?_; intro v2 w8 hown2 hgr2; obtain ⟨s8, m8, rfl, hH8, hN8, hG8, hB8⟩ := AF2.out _ _ _ A7.out B7.out hgr2 hown2; have H8 := Lib.hid hH8; have N8 := Lib.hid hN8; have G8 := Lib.hid hG8; have B8 := Lib.hid hB8; have c8 := CL.out _ hB8; clear hgr2 hown2 hH8 hN8 hG8 hB8) | (go_simp; go_at_call 42; (with_reducible refine hdd.mono ?_); rintro e x7 ⟨rfl, _, hK7, hB7⟩; have A7 := Lib.hid (AFT.out _ hK7); have B7 := Lib.hid hB7; have c7 := CL.out _ hB7; clear hK7 hB7) | (go_simp; go_at_call 42; (refine (HDG.out _ _ _ G8.out B8.out H8.out N8.out).mono ?_); rintro e x9 ⟨rfl, _, _, hB9⟩; have B9 := Lib.hid hB9; have c9 := CL.out _ hB9; clear hB9) | (go_simp; go_at_call 17; refine (awake11_c _).mono ?_; rintro e x10 ⟨rfl, hb10⟩; have B10 := Lib.hid (below_call B9.out hb10); have c10 := CL.out _ (below_call B9.out hb10); clear hb10) | fail)
    all_goals
      go_wp2_with fail
      go_ret
      exact ⟨rfl, B10.out⟩

set_option maxRecDepth 100000 in
theorem lifted (os : Os) (started : os.Started) (H : Type) (enc : TypeId × Value → H) :
    ReturnsInHanded {} Tryd.checked os 7 .any (fun w args => (Rows.arithPrefixesSpec.pre enc Tryd.prog Tryd.f7 Rows.arithPrefixesRow.domain false w args ∧ laidMetH Tryd.prog Rows.arithPrefixesRow.laid w) ∧ sizedMet enc Tryd.prog Tryd.f7 (OpenSpec.ofChange Rows.arithPrefixesSpec) false w args)
      (Rows.arithPrefixesSpec.post enc Tryd.prog Tryd.f7 false true false false) := by
  refine returnsInHanded_of_change_and (C := Tryd.checked) (X := fun w _ => laidMetH Tryd.prog Rows.arithPrefixesRow.laid w) (fun _ _ _ hh h => h.of_heap hh) own started (by kernel_rfl) Tryd.func7
    (ChangeSpec.witness_shaped (enc := enc) (C := Tryd.checked) (os := os) (X := fun w _ => laidMetH Tryd.prog Rows.arithPrefixesRow.laid w) false (World.laidAll Tryd.prog os Rows.arithPrefixesRow.laid) #[.slice none 0 0, .int .i64 0, .slice none 0 0] 8 (World.laidAll_os _ _ _)
      (World.shaped_of_ZipB (by kernel_rfl) (by kernel_rfl)) (by kernel_rfl) (by kernel_rfl) (by kernel_rfl)
      (by rw [MakeChecks.laidMetH_plain _ _ _ (by kernel_rfl)]; exact laidMet_laidAll _ (by kernel_rfl) (by kernel_rfl))) ?_
  intro W base args ds gs before hval0 hW _ _ _ _
  have hval : ∀ (j : Nat) t v, Tryd.f7.params[j]? = some t → args[j]? = some v → Value.okWide Tryd.prog W .any base t v := hval0
  have hW' := hW
  obtain ⟨p, q, hA0, hV, rfl, _, _⟩ := hW
  have hA : DataW.TrodAll enc Tryd.prog W 0 (fun _ => true) true Tryd.f7.params.toList args.toList ds p := hA0
  rw [Tryd.params7] at hA hval
  obtain ⟨v0, vs0, d0, ds0, p0, q0, hargs, rfl, rfl, h0, r0⟩ := trodAll_cons hA
  obtain ⟨v1, vs1, d1, ds1, p1, q1, rfl, rfl, rfl, h1, r1⟩ := trodAll_cons r0
  obtain ⟨v2, vs2, d2, ds2, p2, q2, rfl, rfl, rfl, h2, r2⟩ := trodAll_cons r1
  obtain ⟨rfl, rfl, rfl⟩ := trodAll_nil r2
  obtain rfl : args = #[v0, v1, v2] := by cases args; simp_all
  obtain ⟨rfl, rfl⟩ := trodVars_none hV
  clear hA0 hval0
  simp only [List.append_nil] at hW'
  have l0 : ∀ x ∈ p0, x.block < W.heap.size := fun x hx => hW'.lt x (by simp [hx])
  have l1 : ∀ x ∈ p1, x.block < W.heap.size := fun x hx => hW'.lt x (by simp [hx])
  have l2 : ∀ x ∈ p2, x.block < W.heap.size := fun x hx => hW'.lt x (by simp [hx])
  obtain ⟨s0, b0, m0, rfl, hB0, hm0, _, hn0⟩ := open_syms (hval 0 52 v0 rfl rfl) h0
  obtain ⟨i1, rfl, _, _, wi1⟩ := open_int Tryd.underlying3 (hval 1 3 v1 rfl rfl) h1
  obtain ⟨s2, b2, m2, rfl, hB2, hY2, hm2, _, hn2⟩ := open_bytes (hval 2 34 v2 rfl rfl) h2
  refine (walk b0 s0 m0 i1 b2 s2 m2 W hB0 hm0 hB2 hY2 hn2).mono fun e W' ⟨he, hb⟩ => ?_
  subst he
  exact ⟨_, rfl, post_low (pa := p0 ++ (p1 ++ (p2 ++ ([])))) (pv := []) hW' (fun _ _ _ => (trodAll_cons_mk (shut_bool Tryd.underlying4 _) trodAll_mk0)) (fun sp hsp => (trodAll_cons_mk (trod_low laidOut (by kernel_rfl) (of_decide_eq_true (by kernel_rfl)) h0 hb l0 (fun x hx => hsp x (by simp [hx]))) (trodAll_cons_mk (trod_low laidOut (by kernel_rfl) (of_decide_eq_true (by kernel_rfl)) h1 hb l1 (fun x hx => hsp x (by simp [hx]))) (trodAll_cons_mk (trod_low laidOut (by kernel_rfl) (of_decide_eq_true (by kernel_rfl)) h2 hb l2 (fun x hx => hsp x (by simp [hx]))) trodAll_mk0)))) (fun _ _ => rfl) (by simp) hb (ok_one (by kernel_rfl) rfl (okWide_bool_mk Tryd.underlying4 _))⟩

theorem over : Rows.arithPrefixesRow.holds Tryd.pinned (OpenSpec.ofChange Rows.arithPrefixesSpec) :=
  OpenClaim.holds_of_wide 7 Tryd.f7 rfl rfl rfl rfl rfl rfl rfl ⟨rfl, rfl, rfl, rfl, rfl⟩ rfl rfl rfl rfl rfl (by kernel_rfl) Tryd.func7 (by kernel_rfl)
    (of_decide_eq_true (by kernel_rfl)) (by unfold Func.isWrapper; first | (rw [if_pos (by decide +kernel)]; kernel_rfl) | (rw [if_neg (by decide +kernel)]; exact ⟨rfl, rfl⟩))
    (fun os started H enc _ => lifted os started H enc)
theorem proved : Rows.ArithPrefixesCardSaid :=
  Claim7.holds_tied_plain_at .later [] [.data, .pinned] true Rows.arithPrefixesCard.stood.harness false over (fun _ h => by cases h) (by kernel_rfl) (fun _ h => by cases h) arithPrefixes_row_tie rfl ⟨rfl, rfl⟩ (by kernel_rfl) rfl
    (fun f fn hf hfn => by
      obtain rfl : f = 7 := Option.some.inj ((show Tryd.prog.funcNamed Rows.arithPrefixesRow.func = some 7 by kernel_rfl).symm.trans hf) |>.symm
      obtain rfl : fn = Tryd.f7 := (Option.some.inj (Tryd.func7.symm.trans hfn)).symm
      exact ⟨by kernel_rfl, fun j t ht => by
        rw [Tryd.params7] at ht
        have hm : t ∈ [52, 3, 34] := by simpa using Array.mem_of_getElem? ht
        have hall : ([52, 3, 34].all fun u => !Tryd.prog.wantsStandIn u) = true := by kernel_rfl
        exact (show Tryd.prog.wantsStandIn t = false by simpa using List.all_eq_true.1 hall t hm)⟩)
    (by kernel_rfl)
#print axioms proved
end Go.Proofs.YtbaappodeicomaaDoor.arithPrefixes
