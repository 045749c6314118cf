/-
  Layer 11, the code's encoder: Encode.
  Layer 11, the code's encoder: Encode at a bit.
-/
import Derived.Test.YtklchodbnjebnaaDoorNB
set_option maxRecDepth 100000
namespace Go.Proofs.YtklchodbnjebnaaDoor
open Go.RowKit

theorem enc_no (w : World) (B a : Nat) (x : Am.X) (c b : Int) (h : AEc w B a x) (hc : ¬ (0 ≤ c ∧ c < x.1.length ∧ (b = 0 ∨ b = 1))) :
    Calls Tryd.prog 132 #[.pointer (some ⟨a, 0, none⟩), .int .i64 c, .int .i64 b] w fun e w' => e = .returned (.int .i64 2) ∧ w = w' := by
  obtain ⟨pv, hv, h⟩ := h
  obtain ⟨c0, c1, c2, c3, c4⟩ := h.r.cells
  obtain ⟨s, m, rfl⟩ := own_slice h.ps
  have hh := has_c w a s x.1.length m c c0
  have hib := isBit_c b
  cases hq : hasB x.1.length c with
  | false =>
    rw [hq] at hh
    clear h hc hq
    go_enter Tryd.func132, Tryd.ntmps132
    go_wp2_with (first | (go_at_call 114; refine (emade_y _ _ c1).mono ?_; rintro e wn ⟨rfl, rfl⟩) | (go_at_call 133; (with_reducible refine hh.mono ?_); rintro e wn ⟨rfl, rfl⟩))
    go_ret
    exact ⟨rfl, rfl⟩
  | true =>
    rw [hq] at hh
    have hb : bitB1 b = false := by
      simp [hasB] at hq
      simp [bitB1]
      refine ⟨fun e => hc ⟨hq.1, hq.2, .inl e⟩, fun e => hc ⟨hq.1, hq.2, .inr e⟩⟩
    rw [hb] at hib
    clear h hc hq hb
    go_enter Tryd.func132, Tryd.ntmps132
    go_wp2_with (first | (go_at_call 114; refine (emade_y _ _ c1).mono ?_; rintro e wn ⟨rfl, rfl⟩) | (go_at_call 133; (with_reducible refine hh.mono ?_); rintro e wn ⟨rfl, rfl⟩) | (go_at_call 134; (with_reducible refine (hib _).mono ?_); rintro e wn ⟨rfl, rfl⟩))
    go_ret
    exact ⟨rfl, rfl⟩
/-- append to a row of the call's own, as one step of a region that draws; where the new row lies. -/
theorem step_append_at {P : Program} {ops : Array Oper} {o : Oper} {act : Act} {w : World} {K : Act → World → Prop} {Q : Exit → Act → World → Prop} {E : Prop} (hgd : o.guard = none) (s x : Operand) (t : TypeId)
    (ho : o.op = .call { callee := .builtin .append, args := #[s, x], argTypes := #[t, t] })
    (base : Nat) (e : TypeId) (i : TypeInfo) (z : Value) (size bytes : Nat) (ht : P.underlying t = some (.slice e)) (hi : P.info? e = some i) (hz : i.zero = some z)
    (hsize : i.size = size) (hby : i.bytes = bytes) (hzs : z.cells.size = size) (hsz : 0 < size)
    (v : Value) (n : Nat) (xs : List Value) (hs : act.eval s = v) (hown : w.ownsRow base e size v n xs)
    (ad : Addr) (m c : Nat) (news : List Value) (hx : act.eval x = .slice (some ad) m c) (hl : news.length = m * size) (hnews : ∀ j u, news[j]? = some u → w.cell? (ad.add j) = some u) (h1 : ∀ u ∈ news, u.oneCell' = true)
    (h63 : n + m ≤ maxLen) (hbytes : (n + m) * bytes ≤ 140737488355328) (hbase : base ≤ w.heap.size)
    (h : ∀ v' w', w'.ownsRow base e size v' (n + m) (xs ++ news) → w.grownBy w' v.ownBlock → (v'.ownBlock = v.ownBlock ∨ v'.ownBlock = some w.heap.size) → K (act.put o.dst v') w') :
    if Region.wanted o (yielded ops act.tmps) = true then Oper.wp P o act w K Q else E := by
  have hw : Region.wanted o (yielded ops act.tmps) = true := by simp [Region.wanted, hgd]
  rw [if_pos hw]
  obtain ⟨v', w', hr, h2, h3, _, h5⟩ := run_append_own_at (P := P) (w := w) base t o.type e i z size bytes ht hi hz hsize hby hzs hsz v n xs hown ad m c news hl hnews h1 h63 hbytes hbase
  unfold Oper.wp execOp
  simp only [ho, resolve, invoke, builtin, Sem.run_bind, Sem.run_pure, Result.andThen_ok, List.map_toArray, List.map_cons, List.map_nil, hs, hx, hr]
  exact h v' w' h2 h3 h5
theorem and_mask (z : Int) (h0 : 0 ≤ z) (h1 : z < 18446744073709551616) : bits .and .u64 z 4294967295 = z % 4294967296 := by
  have := u64_and z 4294967295 h0 h1 (by omega) (by omega)
  rw [this, show (4294967295 : Int).toNat = 2 ^ 32 - 1 by decide, Nat.and_two_pow_sub_one_eq_mod]
  omega
theorem EcR.drew {w : World} {B a : Nat} {pv hv : Value} {P R : List Int} {t rg : Int} (h : EcR w B a pv hv P R t rg) : EcR w.drew B a pv hv P R t rg ∧ Kp a w w.drew := ⟨h.below (Below.refl _ _).drew, Kp.of_below (Below.refl _ _).drew h.core.lt⟩
theorem EcR.ecr_drew {w : World} {B a : Nat} {pv hv : Value} {P R : List Int} {t rg : Int} (h : EcR w B a pv hv P R t rg) {v' : Value} {w2 : World} {X : Obj} {y : Int} (hown : w2.ownsRow B 5 1 v' (R.length + 1) (R.map (Value.int .u8) ++ [.int .u8 y])) (hg : (w.alloc X).drew.grownBy w2 hv.ownBlock) (hat : v'.ownBlock = hv.ownBlock ∨ v'.ownBlock = some (w.alloc X).drew.heap.size) :
    EcR (w2.setCell ⟨a, 2, none⟩ v') B a pv v' P (R ++ [y]) t rg ∧ Kp a w (w2.setCell ⟨a, 2, none⟩ v') ∧ Blk w2 a 114 #[pv, .pointer (some ⟨a, 0, none⟩), hv, .int .u64 t, .int .u64 rg] :=
  h.ecr hown ⟨hg.os, hg.tape, hg.output, hg.size, hg.block⟩ (hat.imp id fun e => by rw [e]; simp)
/-- The state while the range is small. -/
structure Nm (w : World) (B a : Nat) (pv : Value) (P : List Int) (s1 : Am.St) (N : Nat) (hv : Value) (s : Am.St) (W : World) : Prop where
  ec : EcC W B a pv hv (P, s)
  kp : Kp a w W
  eq : Am.norm s = Am.norm s1
  rg : 65536 ≤ s.rg ∧ s.rg ≤ 4294967295
  lo : 0 ≤ s.lo
  n : s.n ≤ N ∧ (s.rg < 16777216 → s.n < N)
theorem norm_eq {s : Am.St} (h : s.rg < 16777216) : Am.norm s = ⟨256 * s.lo, 256 * s.rg, s.n + 1⟩ := by unfold Am.norm; rw [if_pos h]
theorem norm_id {s : Am.St} (h : ¬ s.rg < 16777216) : Am.norm s = s := by unfold Am.norm; rw [if_neg h]
/-- A byte more, and 256 times the rest. -/
theorem nm_next {w W W1 : World} {B a N : Nat} {pv hv hv2 : Value} {P : List Int} {s1 s : Am.St} (h : Nm w B a pv P s1 N hv s W) (hs : s.rg < 16777216) (hE : EcR W1 B a pv hv2 P (Am.dig s.n (s.lo / 4294967296) ++ [s.lo % 4294967296 / 16777216]) (s.lo % 4294967296) s.rg) (hk : Kp a w W1) :
    Nm w B a pv P s1 N hv2 ⟨256 * s.lo, 256 * s.rg, s.n + 1⟩ ((W1.setCell ⟨a, 3, none⟩ (.int .u64 (s.lo % 4294967296 * 256 % 4294967296))).setCell ⟨a, 4, none⟩ (.int .u64 (s.rg * 256))) := by
  have T := hE.tail (s.lo % 4294967296 * 256 % 4294967296)
  have V := T.1.width (s.rg * 256)
  have hr := h.rg
  have hl := h.lo
  have e1 : Am.dig s.n (s.lo / 4294967296) ++ [s.lo % 4294967296 / 16777216] = Am.dig (s.n + 1) (256 * s.lo / 4294967296) := by
    rw [Am.dig, show 256 * s.lo / 4294967296 / 256 = s.lo / 4294967296 by omega, show 256 * s.lo / 4294967296 % 256 = s.lo % 4294967296 / 16777216 by omega]
  have e2 : s.lo % 4294967296 * 256 % 4294967296 = 256 * s.lo % 4294967296 := by omega
  refine ⟨EcR.c ?_, (hk.trans T.2).trans V.2, ?_, ?_, ?_, ?_⟩
  · show EcR _ B a pv hv2 P (Am.dig (s.n + 1) (256 * s.lo / 4294967296)) (256 * s.lo % 4294967296) (256 * s.rg)
    rw [← e1, ← e2, Int.mul_comm 256 s.rg]
    exact V.1
  · rw [norm_id (by simp only; omega), ← norm_eq hs]; exact h.eq
  · simp only; omega
  · simp only; omega
  · simp only
    have := h.n.2 hs
    omega
end Go.Proofs.YtklchodbnjebnaaDoor
set_option maxRecDepth 100000
namespace Go.Proofs.YtklchodbnjebnaaDoor
open Go.RowKit

set_option maxHeartbeats 4000000 in
theorem enc_0 (w : World) (B a k : Nat) (P : List Int) (s : Am.St) (h : AEc w B a (P, s)) (hx : Am.OkX (P, s)) (hk : k < P.length) (hl : P.length ≤ 64) (hn : s.n ≤ 1000000) :
    Calls Tryd.prog 132 #[.pointer (some ⟨a, 0, none⟩), .int .i64 (k : Int), .int .i64 0] w (EcGives B a (Am.step (P, s) ((k : Int), 0)) 0 w) := by
  obtain ⟨pv, hv, h⟩ := h
  obtain ⟨c0, c1, c2, c3, c4⟩ := h.r.cells
  obtain ⟨sp, m, rfl⟩ := own_slice h.ps
  obtain ⟨g, rfl, hg, fg, _, _⟩ := own_at h.ps k hk
  dsimp only at c0 c3 c4 hg
  obtain ⟨n, hnn⟩ : ∃ n, n = P.length := ⟨_, rfl⟩
  obtain ⟨p, hp⟩ : ∃ p, p = P[k] := ⟨_, rfl⟩
  have hg2 : w.cell? ⟨g, k, none⟩ = some (.int .i64 p) := by rw [hg, hp]; simp [hk]
  have hpr : Am.pr (P, s) (k : Int) = p := by rw [hp]; simp [Am.pr, List.getD_eq_getElem?_getD, hk]
  have hpp : Am.prob p := by rw [hp]; exact hx.ps _ (List.getElem_mem hk)
  have hok : Am.Ok s := hx.st
  have pb := Am.part_bd hok hpp
  have cb := Am.cut_bd 0 hok hpp
  have hrg := hok.r2
  have hrg0 : 0 ≤ s.rg := by have := hok.r1; omega
  have hst : Hid (Am.step (P, s) ((k : Int), 0) = (P.set k (Am.adp p 0), Am.norm (Am.cut s p 0))) := by
    show _ = _
    unfold Am.step
    rw [hpr]; rfl
  have hh := has_c w a (some ⟨g, 0, none⟩) P.length m (k : Int) c0
  rw [show hasB P.length (k : Int) = true by simp [hasB]; omega] at hh
  have hib := isBit_c 0
  rw [show bitB1 0 = true by decide] at hib
  have hz := zeros_c w.drew a g k P.length m p s.rg c0 hk hg2 hpp hrg0 hrg
  have hPe : s.rg / 4096 * p = Am.part s p := rfl
  rw [hPe] at hz
  have H := Lib.hid h
  have HN := Lib.hid hnn
  have HX := Lib.hid hx
  have HPP := Lib.hid hpp
  have HCB := Lib.hid cb
  have HPB := Lib.hid pb
  have c4d : w.drew.cell? ⟨a, 4, none⟩ = some (.int .u64 s.rg) := c4
  have HPK : Hid (P[k]? = some p) := by show _ = _; rw [hp, List.getElem?_eq_getElem hk]
  have hkl := hk
  have f := h.core.blk.free
  rw [← hnn] at c0 hkl hl
  clear h hg hp hpr hpp hnn hx hok hrg0 hPe
  obtain ⟨Pt, hPt⟩ : ∃ Pt, Pt = Am.part s p := ⟨_, rfl⟩
  rw [← hPt] at hz pb
  have HPt := Lib.hid hPt
  clear hPt cb
  go_enter Tryd.func132, Tryd.ntmps132
  go_upto_region 4 with (first | (go_at_call 114; refine (emade_y _ _ c1).mono ?_; rintro e wn ⟨rfl, rfl⟩) | (go_at_call 133; (with_reducible refine hh.mono ?_); rintro e wn ⟨rfl, rfl⟩) | (go_at_call 134; (with_reducible refine (hib _).mono ?_); rintro e wn ⟨rfl, rfl⟩))
  go_cut [7] (fun s7 wx => s7 = .int .u64 Pt ∧ wx = w.drew)
  case first =>
    go_region_held3 (fun w' => w'.cell? ⟨a, 4, none⟩ = some (.int .u64 s.rg))
      (first | (with_reducible exact c4d) | fail)
      (first | (go_at_call 135; (with_reducible refine hz.mono ?_); rintro e wn ⟨rfl, rfl⟩) | fail)
    all_goals
      go_wp2_with fail
      go_meet
      exact ⟨rfl, rfl⟩
  case rest =>
    obtain ⟨rfl, rfl⟩ := hcut
    have T := H.out.r.drew
    have V := T.1.width Pt
    have hI : Hid (∃ hv' s', Nm w B a (.slice (some ⟨g, 0, none⟩) P.length m) P (Am.cut s p 0) (s.n + 1) hv' s' (w.drew.setCell ⟨a, 4, none⟩ (.int .u64 Pt))) := by
      refine ⟨hv, Am.cut s p 0, EcR.c ?_, T.2.trans V.2, rfl, HCB.out.2.2.1 |> fun h1 => ⟨h1, HCB.out.2.2.2.1⟩, ?_, ?_⟩
      · show EcR _ B a _ hv P (Am.dig s.n (s.lo / 4294967296)) (s.lo % 4294967296) (Am.part s p)
        rw [← HPt.out]; exact V.1
      · show 0 ≤ s.lo; exact HX.out.st.lo
      · show s.n ≤ s.n + 1 ∧ (_ → s.n < s.n + 1); omega
    clear T V
    go_wp2_with fail
    have HKP : Hid (k < P.length ∧ P.length ≤ 64) := ⟨hk, by have := HN.out; omega⟩
    clear hz hh hib c0 c1 c2 c3 c4 f c4d hg2 fg
    go_loopw [] (fun wr => ∃ hv' s', Hid (Nm w B a (.slice (some ⟨g, 0, none⟩) P.length m) P (Am.cut s p 0) (s.n + 1) hv' s' wr)) (fun wr => match wr.cell? ⟨a, 4, none⟩ with | some (.int _ v) => (16777216 - v).toNat | _ => 0)
    case atStart => exact hI
    case round =>
      obtain ⟨hv', s', hN⟩ := hrel
      obtain ⟨d0, d1, d2, d3, d4⟩ := hN.out.ec.r.cells
      dsimp only at d0 d3 d4
      have df := hN.out.ec.core.blk.free
      have hrb := hN.out.rg
      have hlo := hN.out.lo
      have htb : 0 ≤ s'.lo % 4294967296 ∧ s'.lo % 4294967296 ≤ 4294967295 := by omega
      by_cases hlt : s'.rg < 16777216
      · have hnb := hN.out.n.2 hlt
        obtain ⟨sh, mh, rfl⟩ := own_slice hN.out.ec.hd
        have HLT := Lib.hid hlt
        have hHD := hN.out.ec.r.hd
        dsimp only at hHD
        rw [Am.dig_len] at hHD
        have HHD := Lib.hid hHD
        obtain ⟨T, hT⟩ : ∃ T, T = s'.lo % 4294967296 := ⟨_, rfl⟩
        rw [← hT] at d3 htb
        have HT := Lib.hid hT
        obtain ⟨r', hr'⟩ : ∃ r', r' = s'.rg := ⟨_, rfl⟩
        rw [← hr'] at d4 hrb hlt
        have HR := Lib.hid hr'
        have HD4 := Lib.hid d4
        obtain ⟨i0, hi, hz0, hz1, hz2⟩ := info_parts info8
        obtain ⟨Y, hY⟩ : ∃ Y, Y = T / 16777216 := ⟨_, rfl⟩
        have eY : IntKind.u8.wrap (T / 16777216) = Y := by rw [IntKind.wrap_u8, hY]; omega
        have HY := Lib.hid hY
        have eM := and_mask (T * 256) (by omega) (by omega)
        have HM := Lib.hid eM
        have HO2 : Hid ((wr.alloc (.cells #[.int .u8 Y] 5)).drew.ownsRow B 5 1 (.slice sh s'.n mh) s'.n ((Am.dig s'.n (s'.lo / 4294967296)).map (Value.int .u8))) := own_below hHD (((Below.refl _ _).alloc (Nat.le_refl _) _).drew)
        have HNW : Hid (∀ j u, ([.int .u8 Y] : List Value)[j]? = some u → (wr.alloc (.cells #[.int .u8 Y] 5)).drew.cell? ((⟨wr.heap.size, 0, none⟩ : Addr).add j) = some u) := one_new8 wr _ _
        have da2 : (wr.alloc (.cells #[.int .u8 Y] 5)).drew.cell? ⟨a, 2, none⟩ = some (.slice sh s'.n mh) := cell_alloc d2 _
        have hBle : B ≤ wr.heap.size := by have := hN.out.ec.core.lt; have := hN.out.ec.core.ge; omega
        have F : Hid (s'.n + 1 ≤ maxLen ∧ (s'.n + 1) * 1 ≤ 140737488355328 ∧ B ≤ (wr.alloc (.cells #[.int .u8 Y] 5)).drew.heap.size) := ⟨by unfold maxLen; omega, by omega, by simp; omega⟩
        clear hT hr' hHD hlo hY eM
        go_upto_region 11 with fail
        go_region_law (first | (refine step_append_at rfl (.tmp 59) (.tmp 66) 23 rfl B 5 i0 (.int .u8 0) 1 1 Tryd.underlying23 hi hz0 hz1 hz2 rfl (by decide) _ s'.n _ rfl HO2.out ⟨wr.heap.size, 0, none⟩ 1 1 [.int .u8 Y] rfl rfl HNW.out (oneOne8 _) F.out.1 F.out.2.1 F.out.2.2 ?_; intro v2 w2 hown hgr hat; obtain ⟨s2, m2, rfl⟩ := own_slice hown; have E2 := Lib.hid (hN.out.ec.r.ecr_drew (by rw [Am.dig_len]; exact hown) hgr hat); have t2 : w2.cell? ⟨a, 2, none⟩ = some (.slice sh s'.n mh) := E2.out.2.2.cell 2; have tf := E2.out.2.2.free; clear hown hgr hat) | fail)
        all_goals
          obtain ⟨W1, hW1⟩ : ∃ W1, W1 = w2.setCell ⟨a, 2, none⟩ (.slice s2 (s'.n + 1) m2) := ⟨_, rfl⟩
          have hE1 := E2.out.1
          have hK1 := E2.out.2.1
          rw [← hW1] at hE1 hK1 ⊢
          obtain ⟨_, _, _, k3, k4⟩ := hE1.cells
          have kf := hE1.core.blk.free
          dsimp only at k3 k4
          rw [← HT.out] at k3
          rw [← HR.out] at k4
          have hmsk := HM.out
          have HE1 := Lib.hid hE1
          have HK1 := Lib.hid hK1
          clear hW1 hE1 hK1 d0 d1 d2 d3 d4 df t2 tf E2 eY
          go_wp2_with fail
          go_roundw
          case rel =>
            have hE := HE1.out
            rw [HY.out, HT.out] at hE
            have X := nm_next hN.out HLT.out hE (hN.out.kp.trans HK1.out)
            rw [← HT.out, ← HR.out] at X
            exact ⟨_, _, X⟩
          case measure =>
            have q1 : (W1.setCell ⟨a, 3, none⟩ (.int .u64 (T * 256 % 4294967296))).cell? ⟨a, 4, none⟩ = some (.int .u64 r') := by
              rw [World.cell?_setCell_other _ _ _ _ (by simp)]; exact k4
            rw [World.cell?_setCell_same' _ _ _ (by rw [q1]; rfl), HD4.out]
            show (16777216 - r' * 256).toNat < (16777216 - r').toNat
            omega
      · have hnm : Hid (Am.norm (Am.cut s p 0) = s') := by show _ = _; rw [← hN.out.eq, norm_id hlt]
        obtain ⟨g', he, hg, hf, _, _⟩ := own_at hN.out.ec.ps k HKP.out.1
        obtain rfl : g = g' := by simpa using he
        have hgp : wr.cell? ⟨g, k, none⟩ = some (.int .i64 p) := by rw [hg]; simp [HPK.out]
        have ha := madapt_c wr a g k P.length m p 0 d0 HKP.out.1 hgp hf HPP.out (by decide) HKP.out.2
        clear hg he hgp hf
        go_wp2_with (first | (go_at_call 136; (with_reducible refine ha.mono ?_); rintro e w5 ⟨rfl, rfl⟩))
        go_ret
        have Y := (hN.out.ec.r.prob k (Am.adp p 0))
        have Y2 := Y.1.drew
        refine ⟨rfl, ?_, (hN.out.kp.trans Y.2).trans Y2.2⟩
        rw [hst.out, hnm.out]
        exact ⟨_, _, EcR.c Y2.1⟩
set_option maxHeartbeats 4000000 in
theorem enc_1 (w : World) (B a k : Nat) (P : List Int) (s : Am.St) (h : AEc w B a (P, s)) (hx : Am.OkX (P, s)) (hk : k < P.length) (hl : P.length ≤ 64) (hn : s.n ≤ 1000000) :
    Calls Tryd.prog 132 #[.pointer (some ⟨a, 0, none⟩), .int .i64 (k : Int), .int .i64 1] w (EcGives B a (Am.step (P, s) ((k : Int), 1)) 0 w) := by
  obtain ⟨pv, hv, h⟩ := h
  obtain ⟨c0, c1, c2, c3, c4⟩ := h.r.cells
  obtain ⟨sp, m, rfl⟩ := own_slice h.ps
  obtain ⟨g, rfl, hg, fg, _, _⟩ := own_at h.ps k hk
  dsimp only at c0 c3 c4 hg
  obtain ⟨n, hnn⟩ : ∃ n, n = P.length := ⟨_, rfl⟩
  obtain ⟨p, hp⟩ : ∃ p, p = P[k] := ⟨_, rfl⟩
  have hg2 : w.cell? ⟨g, k, none⟩ = some (.int .i64 p) := by rw [hg, hp]; simp [hk]
  have hpr : Am.pr (P, s) (k : Int) = p := by rw [hp]; simp [Am.pr, List.getD_eq_getElem?_getD, hk]
  have hpp : Am.prob p := by rw [hp]; exact hx.ps _ (List.getElem_mem hk)
  have hok : Am.Ok s := hx.st
  have pb := Am.part_bd hok hpp
  have cb := Am.cut_bd 1 hok hpp
  have hrg := hok.r2
  have hrg0 : 0 ≤ s.rg := by have := hok.r1; omega
  have hst : Hid (Am.step (P, s) ((k : Int), 1) = (P.set k (Am.adp p 1), Am.norm (Am.cut s p 1))) := by
    show _ = _
    unfold Am.step
    rw [hpr]; rfl
  have hh := has_c w a (some ⟨g, 0, none⟩) P.length m (k : Int) c0
  rw [show hasB P.length (k : Int) = true by simp [hasB]; omega] at hh
  have hib := isBit_c 1
  rw [show bitB1 1 = true by decide] at hib
  have hz := zeros_c w.drew a g k P.length m p s.rg c0 hk hg2 hpp hrg0 hrg
  have hPe : s.rg / 4096 * p = Am.part s p := rfl
  rw [hPe] at hz
  have H := Lib.hid h
  have HN := Lib.hid hnn
  have HX := Lib.hid hx
  have HPP := Lib.hid hpp
  have HCB := Lib.hid cb
  have HPB := Lib.hid pb
  have c4d : w.drew.cell? ⟨a, 4, none⟩ = some (.int .u64 s.rg) := c4
  have HPK : Hid (P[k]? = some p) := by show _ = _; rw [hp, List.getElem?_eq_getElem hk]
  have hkl := hk
  have f := h.core.blk.free
  rw [← hnn] at c0 hkl hl
  clear h hg hp hpr hpp hnn hx hok hrg0 hPe
  obtain ⟨Pt, hPt⟩ : ∃ Pt, Pt = Am.part s p := ⟨_, rfl⟩
  rw [← hPt] at hz pb
  have HPt := Lib.hid hPt
  clear hPt cb
  go_enter Tryd.func132, Tryd.ntmps132
  go_upto_region 4 with (first | (go_at_call 114; refine (emade_y _ _ c1).mono ?_; rintro e wn ⟨rfl, rfl⟩) | (go_at_call 133; (with_reducible refine hh.mono ?_); rintro e wn ⟨rfl, rfl⟩) | (go_at_call 134; (with_reducible refine (hib _).mono ?_); rintro e wn ⟨rfl, rfl⟩))
  go_cut [7] (fun s7 wx => s7 = .int .u64 Pt ∧ wx = w.drew)
  case first =>
    go_region_held3 (fun w' => w'.cell? ⟨a, 4, none⟩ = some (.int .u64 s.rg))
      (first | (with_reducible exact c4d) | fail)
      (first | (go_at_call 135; (with_reducible refine hz.mono ?_); rintro e wn ⟨rfl, rfl⟩) | fail)
    all_goals
      go_wp2_with fail
      go_meet
      exact ⟨rfl, rfl⟩
  case rest =>
    obtain ⟨rfl, rfl⟩ := hcut
    have hR := raise_c w.drew B a (.slice (some ⟨g, 0, none⟩) P.length m) hv P s Pt (EcR.c (x := (P, s)) H.out.r.drew.1) HX.out.st.lo (by omega) (by omega) (by have h1 : s.lo + s.rg ≤ 4294967296 * Am.Pw s.n := HX.out.st.top; omega) (by omega)
    go_upto_region 9 with (first | (go_at_call 115; (with_reducible refine hR.mono ?_); rintro e W3 ⟨rfl, hE3, hK3⟩))
    obtain ⟨_, _, _, _, d4⟩ := hE3.r.cells
    have df := hE3.core.blk.free
    replace d4 : W3.cell? ⟨a, 4, none⟩ = some (.int .u64 s.rg) := d4
    have V := hE3.r.width (s.rg - Pt)
    have hI : Hid (∃ hv' s', Nm w B a (.slice (some ⟨g, 0, none⟩) P.length m) P (Am.cut s p 1) (s.n + 1) hv' s' (W3.setCell ⟨a, 4, none⟩ (.int .u64 (s.rg - Pt)))) := by
      refine ⟨hv, Am.cut s p 1, EcR.c ?_, (H.out.r.drew.2.trans hK3).trans V.2, rfl, ⟨HCB.out.2.2.1, HCB.out.2.2.2.1⟩, ?_, ?_⟩
      · show EcR _ B a _ hv P (Am.dig s.n ((s.lo + Am.part s p) / 4294967296)) ((s.lo + Am.part s p) % 4294967296) (s.rg - Am.part s p)
        rw [← HPt.out]; exact V.1
      · have := HCB.out.1; have := HX.out.st.lo; show 0 ≤ (Am.cut s p 1).lo; exact Int.le_trans HX.out.st.lo HCB.out.1
      · show s.n ≤ s.n + 1 ∧ (_ → s.n < s.n + 1); omega
    clear V hR hE3 hK3
    go_wp2_with fail
    have HKP : Hid (k < P.length ∧ P.length ≤ 64) := ⟨hk, by have := HN.out; omega⟩
    clear hz hh hib c0 c1 c2 c3 c4 f c4d hg2 fg
    go_loopw [] (fun wr => ∃ hv' s', Hid (Nm w B a (.slice (some ⟨g, 0, none⟩) P.length m) P (Am.cut s p 1) (s.n + 1) hv' s' wr)) (fun wr => match wr.cell? ⟨a, 4, none⟩ with | some (.int _ v) => (16777216 - v).toNat | _ => 0)
    case atStart => exact hI
    case round =>
      obtain ⟨hv', s', hN⟩ := hrel
      obtain ⟨d0, d1, d2, d3, d4⟩ := hN.out.ec.r.cells
      dsimp only at d0 d3 d4
      have df := hN.out.ec.core.blk.free
      have hrb := hN.out.rg
      have hlo := hN.out.lo
      have htb : 0 ≤ s'.lo % 4294967296 ∧ s'.lo % 4294967296 ≤ 4294967295 := by omega
      by_cases hlt : s'.rg < 16777216
      · have hnb := hN.out.n.2 hlt
        obtain ⟨sh, mh, rfl⟩ := own_slice hN.out.ec.hd
        have HLT := Lib.hid hlt
        have hHD := hN.out.ec.r.hd
        dsimp only at hHD
        rw [Am.dig_len] at hHD
        have HHD := Lib.hid hHD
        obtain ⟨T, hT⟩ : ∃ T, T = s'.lo % 4294967296 := ⟨_, rfl⟩
        rw [← hT] at d3 htb
        have HT := Lib.hid hT
        obtain ⟨r', hr'⟩ : ∃ r', r' = s'.rg := ⟨_, rfl⟩
        rw [← hr'] at d4 hrb hlt
        have HR := Lib.hid hr'
        have HD4 := Lib.hid d4
        obtain ⟨i0, hi, hz0, hz1, hz2⟩ := info_parts info8
        obtain ⟨Y, hY⟩ : ∃ Y, Y = T / 16777216 := ⟨_, rfl⟩
        have eY : IntKind.u8.wrap (T / 16777216) = Y := by rw [IntKind.wrap_u8, hY]; omega
        have HY := Lib.hid hY
        have eM := and_mask (T * 256) (by omega) (by omega)
        have HM := Lib.hid eM
        have HO2 : Hid ((wr.alloc (.cells #[.int .u8 Y] 5)).drew.ownsRow B 5 1 (.slice sh s'.n mh) s'.n ((Am.dig s'.n (s'.lo / 4294967296)).map (Value.int .u8))) := own_below hHD (((Below.refl _ _).alloc (Nat.le_refl _) _).drew)
        have HNW : Hid (∀ j u, ([.int .u8 Y] : List Value)[j]? = some u → (wr.alloc (.cells #[.int .u8 Y] 5)).drew.cell? ((⟨wr.heap.size, 0, none⟩ : Addr).add j) = some u) := one_new8 wr _ _
        have da2 : (wr.alloc (.cells #[.int .u8 Y] 5)).drew.cell? ⟨a, 2, none⟩ = some (.slice sh s'.n mh) := cell_alloc d2 _
        have hBle : B ≤ wr.heap.size := by have := hN.out.ec.core.lt; have := hN.out.ec.core.ge; omega
        have F : Hid (s'.n + 1 ≤ maxLen ∧ (s'.n + 1) * 1 ≤ 140737488355328 ∧ B ≤ (wr.alloc (.cells #[.int .u8 Y] 5)).drew.heap.size) := ⟨by unfold maxLen; omega, by omega, by simp; omega⟩
        clear hT hr' hHD hlo hY eM
        go_upto_region 11 with fail
        go_region_law (first | (refine step_append_at rfl (.tmp 59) (.tmp 66) 23 rfl B 5 i0 (.int .u8 0) 1 1 Tryd.underlying23 hi hz0 hz1 hz2 rfl (by decide) _ s'.n _ rfl HO2.out ⟨wr.heap.size, 0, none⟩ 1 1 [.int .u8 Y] rfl rfl HNW.out (oneOne8 _) F.out.1 F.out.2.1 F.out.2.2 ?_; intro v2 w2 hown hgr hat; obtain ⟨s2, m2, rfl⟩ := own_slice hown; have E2 := Lib.hid (hN.out.ec.r.ecr_drew (by rw [Am.dig_len]; exact hown) hgr hat); have t2 : w2.cell? ⟨a, 2, none⟩ = some (.slice sh s'.n mh) := E2.out.2.2.cell 2; have tf := E2.out.2.2.free; clear hown hgr hat) | fail)
        all_goals
          obtain ⟨W1, hW1⟩ : ∃ W1, W1 = w2.setCell ⟨a, 2, none⟩ (.slice s2 (s'.n + 1) m2) := ⟨_, rfl⟩
          have hE1 := E2.out.1
          have hK1 := E2.out.2.1
          rw [← hW1] at hE1 hK1 ⊢
          obtain ⟨_, _, _, k3, k4⟩ := hE1.cells
          have kf := hE1.core.blk.free
          dsimp only at k3 k4
          rw [← HT.out] at k3
          rw [← HR.out] at k4
          have hmsk := HM.out
          have HE1 := Lib.hid hE1
          have HK1 := Lib.hid hK1
          clear hW1 hE1 hK1 d0 d1 d2 d3 d4 df t2 tf E2 eY
          go_wp2_with fail
          go_roundw
          case rel =>
            have hE := HE1.out
            rw [HY.out, HT.out] at hE
            have X := nm_next hN.out HLT.out hE (hN.out.kp.trans HK1.out)
            rw [← HT.out, ← HR.out] at X
            exact ⟨_, _, X⟩
          case measure =>
            have q1 : (W1.setCell ⟨a, 3, none⟩ (.int .u64 (T * 256 % 4294967296))).cell? ⟨a, 4, none⟩ = some (.int .u64 r') := by
              rw [World.cell?_setCell_other _ _ _ _ (by simp)]; exact k4
            rw [World.cell?_setCell_same' _ _ _ (by rw [q1]; rfl), HD4.out]
            show (16777216 - r' * 256).toNat < (16777216 - r').toNat
            omega
      · have hnm : Hid (Am.norm (Am.cut s p 1) = s') := by show _ = _; rw [← hN.out.eq, norm_id hlt]
        obtain ⟨g', he, hg, hf, _, _⟩ := own_at hN.out.ec.ps k HKP.out.1
        obtain rfl : g = g' := by simpa using he
        have hgp : wr.cell? ⟨g, k, none⟩ = some (.int .i64 p) := by rw [hg]; simp [HPK.out]
        have ha := madapt_c wr a g k P.length m p 1 d0 HKP.out.1 hgp hf HPP.out (by decide) HKP.out.2
        clear hg he hgp hf
        go_wp2_with (first | (go_at_call 136; (with_reducible refine ha.mono ?_); rintro e w5 ⟨rfl, rfl⟩))
        go_ret
        have Y := (hN.out.ec.r.prob k (Am.adp p 1))
        have Y2 := Y.1.drew
        refine ⟨rfl, ?_, (hN.out.kp.trans Y.2).trans Y2.2⟩
        rw [hst.out, hnm.out]
        exact ⟨_, _, EcR.c Y2.1⟩
/-- Encode of a valid bit. -/
theorem enc_y (w : World) (B a : Nat) (x : Am.X) (c b : Int) (h : AEc w B a x) (hx : Am.OkX x) (hc : 0 ≤ c ∧ c < x.1.length ∧ (b = 0 ∨ b = 1)) (hl : x.1.length ≤ 64) (hn : x.2.n ≤ 1000000) :
    Calls Tryd.prog 132 #[.pointer (some ⟨a, 0, none⟩), .int .i64 c, .int .i64 b] w (EcGives B a (Am.step x (c, b)) 0 w) := by
  obtain ⟨P, s⟩ := x
  obtain ⟨k, rfl⟩ : ∃ k : Nat, c = k := ⟨c.toNat, by omega⟩
  have hk : k < P.length := by have := hc.2.1; simp only at this; omega
  rcases hc.2.2 with rfl | rfl
  · exact enc_0 w B a k P s h hx hk hl hn
  · exact enc_1 w B a k P s h hx hk hl hn
end Go.Proofs.YtklchodbnjebnaaDoor
