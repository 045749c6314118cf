/-
  Layer 17: code: the coded block of symbols.
-/
import Derived.Test.YtklchodbnjebnaaDoorNO
set_option maxRecDepth 100000
namespace Go.Proofs.YtklchodbnjebnaaDoor
open Go.RowKit

/-- A coded block as a value: its entries, its bytes. -/
def CvAt (W : World) (v : Value) (pl : Int) (E D : List Int) : Prop := ∃ se me sd md, v = .agg #[.int .i64 pl, .slice se E.length me, .slice sd D.length md] ∧ HoldsI W se E ∧ HoldsB W sd D ∧ E.length ≤ me ∧ D.length ≤ md ∧ (se = none → E = [] ∧ me = 0) ∧ (sd = none → D = [] ∧ md = 0)
theorem CvAt.call {W W1 : World} {v : Value} {pl : Int} {E D : List Int} (h : CvAt W v pl E D) (hb : Below W.heap.size W W1) : CvAt W1 v pl E D := by
  obtain ⟨se, me, sd, md, h1, h2, h3, h4⟩ := h
  exact ⟨se, me, sd, md, h1, h2.below hb (Nat.le_refl _), h3.call hb, h4⟩
def zeroC : Value := .agg #[.int .i64 0, .slice none 0 0, .slice none 0 0]
/-- A coded block's slices lie in memory that is new. -/
def CvNew (B : Nat) (v : Value) : Prop := ∀ (x : Value) (se : Option Addr) (ne me : Nat) (sd : Option Addr) (nd md : Nat), v = .agg #[x, .slice se ne me, .slice sd nd md] → (∀ p, se = some p → B ≤ p.block) ∧ (∀ p, sd = some p → B ≤ p.block)
theorem CvAt.keep {W W1 : World} {v : Value} {pl : Int} {E D : List Int} {B : Nat} (h : CvAt W v pl E D) (hn : CvNew B v) (hk : ∀ k, B ≤ k → W1.heap[k]? = W.heap[k]?) : CvAt W1 v pl E D := by
  obtain ⟨se, me, sd, md, h1, h2, h3, h4⟩ := h
  obtain ⟨n1, n2⟩ := hn _ _ _ _ _ _ _ h1
  exact ⟨se, me, sd, md, h1, holdsI_far h2 fun p hp => hk _ (n1 p hp), holdsB_far h3 fun p hp => hk _ (n2 p hp), h4⟩
theorem CvNew.mono {B B' : Nat} {v : Value} (h : CvNew B v) (hB : B' ≤ B) : CvNew B' v := fun x se ne me sd nd md e => ⟨fun p hp => Nat.le_trans hB ((h x se ne me sd nd md e).1 p hp), fun p hp => Nat.le_trans hB ((h x se ne me sd nd md e).2 p hp)⟩
/-- What code gives. -/
def CdG (W : World) (pl : Int) (E D : List Int) (e : Ending) (w' : World) : Prop :=
  Below W.heap.size W w' ∧ ((65535 < D.length ∧ e = .returned (.tuple #[zeroC, .int .i64 5])) ∨ (D.length ≤ 65535 ∧ ∃ v, e = .returned (.tuple #[v, .int .i64 0]) ∧ CvAt w' v pl E D ∧ CvNew W.heap.size v))
theorem cdg_open {W w' : World} {pl : Int} {E D : List Int} {e : Ending} (h : CdG W pl E D e w') : ∃ (x0 : Int) (se : Option Addr) (ne me : Nat) (sd : Option Addr) (nd md : Nat) (c : Int), e = .returned (.tuple #[.agg #[.int .i64 x0, .slice se ne me, .slice sd nd md], .int .i64 c]) ∧ Below W.heap.size W w' ∧
    ∀ W1 : World, (∀ k, W.heap.size ≤ k → W1.heap[k]? = w'.heap[k]?) → (65535 < D.length ∧ .agg #[.int .i64 x0, .slice se ne me, .slice sd nd md] = zeroC ∧ c = 5) ∨ (D.length ≤ 65535 ∧ c = 0 ∧ CvAt W1 (.agg #[.int .i64 x0, .slice se ne me, .slice sd nd md]) pl E D ∧ CvNew W.heap.size (.agg #[.int .i64 x0, .slice se ne me, .slice sd nd md])) := by
  obtain ⟨hb, h⟩ := h
  rcases h with ⟨h1, rfl⟩ | ⟨h1, v, rfl, h2, h3⟩
  · exact ⟨0, none, 0, 0, none, 0, 0, 5, rfl, hb, fun _ _ => .inl ⟨h1, rfl, rfl⟩⟩
  · have h2' := h2
    obtain ⟨se, me, sd, md, rfl, _⟩ := h2'
    exact ⟨pl, se, _, me, sd, _, md, 0, rfl, hb, fun W1 hk => .inr ⟨h1, rfl, h2.keep h3 hk, h3⟩⟩
theorem own_capI {w : World} {base n m : Nat} {s : Option Addr} {l : List Int} (h : w.ownsRow base 3 1 (.slice s n m) n (l.map (Value.int .i64))) : HoldsI w s l ∧ l.length ≤ m ∧ (s = none → l = [] ∧ m = 0) := by
  obtain ⟨hn, hH⟩ := own_holds h
  refine ⟨hH, ?_⟩
  obtain ⟨_, h2⟩ := h
  rcases h2 with ⟨e1, e2⟩ | ⟨g, cap, cur, e, _, _, hc, _, _, _⟩
  · simp at e1
    exact ⟨by omega, fun _ => ⟨List.length_eq_zero_iff.1 (by omega), e1.2.2⟩⟩
  · simp at e
    exact ⟨by omega, fun e3 => by rw [e.1] at e3; cases e3⟩
set_option maxHeartbeats 8000000 in
theorem bcode_c (A : List (List Sy)) (s : Option Addr) (mm : Nat) (pl : Int) (m : Mo) (W : World) (hZ : HoldsZ W s A) (hcap : A.length ≤ mm) (hA : A.length ≤ 178) (hs : SyOk m A) :
    Calls Tryd.prog 24 #[.slice s A.length mm, .int .i64 pl, m.val] W (CdG W pl (cdA m A).E (cdA m A).D) := by
  obtain ⟨i0, hi1, hz0, hz1, hz2⟩ := info_parts infoI
  obtain ⟨i8, hi8, hy0, hy1, hy2⟩ := info_parts info8
  obtain ⟨ns, hns⟩ : ∃ x, x = segs A.length m.b m.r := ⟨_, rfl⟩
  have e0 : ns = segC m.b m.r A.length := by rw [hns, segs_is _ hA]
  have hp1 : ∀ x ∈ ns, 1 ≤ x := by rw [e0]; exact (segC_sum _ _ _).2
  have hsum : sumI ns = A.length := by rw [e0]; exact (segC_sum _ _ _).1
  have hnl : ns.length ≤ 178 := by rw [e0]; exact Nat.le_trans (segC_len _ _ _).1 hA
  have hcd : cdA m A = cdI m A ns ns.length := by rw [cdI_all, hns]; rfl
  rw [hcd]
  have kN : ∀ w : World, Calls Tryd.prog 34 #[.int .i64 19] w fun e w' => ∃ a, e = .returned (.tuple #[.pointer (some ⟨a, 0, none⟩), .int .i64 0]) ∧ AEc w' w.heap.size a (x0 19) ∧ Below w.heap.size w w' := fun w => enew_y 19 w (by omega) (by omega)
  have kW := fun w => wnew_c w
  have kS := fun w => segsJ_any A.length m hA w
  have kR := fun (i : Nat) (h : i ≤ 178) (w : World) => raw_c (i : Int) m (by omega) w
  rw [← hns] at kS
  obtain ⟨M, hM⟩ : ∃ M : Mo, M = m := ⟨_, rfl⟩
  rw [← hM]
  have HMV := Lib.hid (show M.val = .agg #[.bool m.b, .bool m.r, .bool m.s, .bool m.c, .bool m.y] by rw [hM]; rfl)
  have HMM := Lib.hid hM
  have HS := Lib.hid hs
  have HZ := Lib.hid hZ
  have HP := Lib.hid hp1
  have HSUM := Lib.hid hsum
  have HNL := Lib.hid hnl
  have HE0 := Lib.hid e0
  have HA := Lib.hid hA
  have HCAP := Lib.hid hcap
  obtain ⟨mb, mr, ms, mc, my⟩ := m
  rw [HMV.out]
  have hB1 := below_alloc (below_alloc (Below.refl _ W) (.cells #[.bool mb, .bool mr, .bool ms, .bool mc, .bool my] 27)) (.cells #[.int .i64 0, .slice none 0 0, .slice none 0 0] 25)
  have HB1 := Lib.hid hB1
  have MB0 := Lib.hid ((Blk.new W 27 #[.bool mb, .bool mr, .bool ms, .bool mc, .bool my]).below (below_alloc (Below.refl _ _) (.cells #[.int .i64 0, .slice none 0 0, .slice none 0 0] 25)))
  have RB0 := Lib.hid (Blk.new (W.alloc (.cells #[.bool mb, .bool mr, .bool ms, .bool mc, .bool my] 27)) 25 #[.int .i64 0, .slice none 0 0, .slice none 0 0])
  unfold Mo.val at kS kR
  dsimp only at kS kR
  clear hns e0 hp1 hsum hnl hcd hM hs hZ hB1 hA hcap
  go_enter Tryd.func24, Tryd.ntmps24
  go_wp2_with (first | (go_at_call 34; (with_reducible refine (kN _).mono ?_); rintro e w1 ⟨a, rfl, hE, hb⟩; have E1 := Lib.hid hE; have B1 := Lib.hid hb; clear hE hb) | (go_at_call 35; (with_reducible refine (kW _).mono ?_); rintro e w2 ⟨b, rfl, hE, hb⟩; have E2 := Lib.hid hE; have B2 := Lib.hid hb; have MB2 := Lib.hid (((MB0.out.below B1.out).below B2.out).alloc (.cells #[.int .i64 pl, .slice none 0 0, .slice none 0 0] 25)); obtain ⟨m0, m1, m2, m3, m4⟩ := md MB2.out; clear hE hb) | (go_at_call 36; (with_reducible refine (kS _).mono ?_); rintro e w3 ⟨sg, mg, rfl, hH, hb, hf⟩; have G3 := Lib.hid hH; have B3 := Lib.hid hb; have F3 := Lib.hid hf; clear hH hb hf))
  -- the loop over the segments
  have C3 : Hid (Cst W ⟨mb, mr, ms, mc, my⟩ pl a b W.heap.size (W.heap.size + 1) w2.heap.size (List.replicate 19 2048) [] [] (.slice none 0 0) (.slice none 0 0) sg ns w3) := by
    refine cst_start (m := ⟨mb, mr, ms, mc, my⟩) E1.out B1.out E2.out B2.out B3.out G3.out (fun p e => (F3.out p e).1) (fun p e => (F3.out p e).2)
  have D30 : Hid ((cdI M A ns 0).D.length ≤ 178001 * 0) := Nat.le_refl _
  clear m0 m1 m2 m3 m4 kN kW kS MB2
  go_loopw [32] (fun i wr => ∃ (k : Nat) (ev dv : Value), k ≤ ns.length ∧ i = .int .i64 (k : Int) ∧ Hid (Cst W ⟨mb, mr, ms, mc, my⟩ pl a b W.heap.size (W.heap.size + 1) w2.heap.size (cdI M A ns k).P (cdI M A ns k).E (cdI M A ns k).D ev dv sg ns wr) ∧ Hid ((cdI M A ns k).D.length ≤ 178001 * k)) (fun i _ => ns.length - (intOf i).toNat)
  case atStart => exact ⟨0, _, _, Nat.zero_le _, rfl, C3, D30⟩
  case round =>
    obtain ⟨k, ev, dv, hk, rfl, hC, hD⟩ := hrel
    obtain ⟨se, me, rfl⟩ := own_slice hC.out.er
    obtain ⟨sd, md9, rfl⟩ := own_slice hC.out.dr
    have hEl := cdI_E M A HP.out HSUM.out k hk
    have hck := cdI_k M A HP.out k hk
    by_cases hlt : k < ns.length
    · have hst := atS_step HP.out hlt
      have hle := atS_le HP.out (k + 1)
      rw [hst.1, HSUM.out] at hle
      have hsy := HS.out.cut HE0.out hlt
      have hstep := cdI_step M A hlt
      obtain ⟨bs, os, hsg, hcs⟩ := hC.out.hsg.resolve_left (fun h => by rw [h] at hlt; simp at hlt)
      subst hsg
      have c0 := hcs k hlt
      obtain ⟨n, hn⟩ : ∃ n, n = (ns[k]).toNat := ⟨_, rfl⟩
      rw [← hn] at hst hle hsy hstep
      rw [← hst.2.2] at c0
      obtain ⟨k0, hk0⟩ : ∃ x, x = atS ns k := ⟨_, rfl⟩
      rw [← hk0] at hst hle hsy hEl hck
      obtain ⟨c, hc⟩ : ∃ x, x = cdI M A ns k := ⟨_, rfl⟩
      rw [← hc] at hEl hck hC hD hstep
      obtain ⟨E0, hE0⟩ : ∃ x, x = c.E := ⟨_, rfl⟩
      obtain ⟨D0, hD0⟩ : ∃ x, x = c.D := ⟨_, rfl⟩
      rw [← hE0] at hEl hC
      rw [← hD0] at hC hD
      have hC' : Hid (Cst W ⟨mb, mr, ms, mc, my⟩ pl a b W.heap.size (W.heap.size + 1) w2.heap.size c.P E0 D0 (.slice se k0 me) (.slice sd D0.length md9) (some ⟨bs, os, none⟩) ns wr) := by rw [← hEl]; exact hC
      clear hC
      have hC := hC'
      clear hC'
      have c1 := hC.out.cb.cell 1
      have c2 := hC.out.cb.cell 2
      obtain ⟨m0, m1, m2, m3, m4⟩ := md hC.out.mb
      obtain ⟨bo, off, rfl⟩ : ∃ bo off, s = some ⟨bo, off, none⟩ := by
        rcases HZ.out with h | ⟨bo, off, h, _⟩
        · exfalso; rw [h] at hle; simp at hle; omega
        · exact ⟨bo, off, h⟩
      have HSY := Lib.hid hsy
      have HSTEP := Lib.hid hstep
      have HCK := Lib.hid hck
      have HEL := Lib.hid hEl
      have KN := Lib.hid hle
      have KA := Lib.hid (show k0 ≤ 178 by have := HA.out; omega)
      have NA := Lib.hid (show n ≤ 178 by have := HA.out; omega)
      have K178 := KA
      have N178 := NA
      have HLT := Lib.hid hlt
      have HK0 := Lib.hid hk0
      have HCE := Lib.hid hE0
      have HCDD := Lib.hid hD0
      have HCC := Lib.hid hc
      have HN1 := Lib.hid hst.2.1
      have wkn : IntKind.i64.wrap ((k0 : Int) + (n : Int)) = ((k0 + n : Nat) : Int) := by have := KA.out; have := NA.out; rw [IntWalk.i64_left]; unfold wrap64; omega
      have wk1 : IntKind.i64.wrap ((k : Int) + 1) = ((k + 1 : Nat) : Int) := by have := HNL.out; rw [IntWalk.i64_left]; unfold wrap64; omega
      have hcap1 : k0 + n ≤ mm := by have := HCAP.out; omega
      have hk0n : k0 ≤ k0 + n := by omega
      have hi1a : (0 : Int) ≤ (k0 : Int) := by omega
      have hi2a : (k0 : Int) ≤ (k0 : Int) + (n : Int) := by omega
      have hi3a : (k0 : Int) + (n : Int) ≤ (mm : Int) := by omega
      have htn : ((k0 : Int) + (n : Int)).toNat - k0 = n := by omega
      have hmk : ¬ mm = k0 := by have := hst.2.1; omega
      have hB9 : Hid ((cdB ⟨mb, mr, ms, mc, my⟩ c (cut9 A k0 n)).length ≤ 178001) := cdB_le hC.out.pr.e.2.1 hC.out.pr.e.2.2 (by have := cut9_len A k0 n hle; have := NA.out; omega) (by rw [hck]; exact hsy)
      clear hsy hstep hck hEl hle hk0 hE0 hD0 hc hst hcs hn hk
      by_cases hraw : rawM (k0 : Int) mb = true
      · have hsyL : ∀ L ∈ cut9 A k0 n, L.length ≤ 1000 ∧ ∀ y ∈ L, (y.2 = 0 ∨ y.2 = 1) := fun L hL => ⟨(HSY.out L hL).1, fun y hy => ((HSY.out L hL).2 y hy).1⟩
        have hcdk : rawM (c.k : Int) (⟨mb, mr, ms, mc, my⟩ : Mo).b = true := by rw [HCK.out]; exact hraw
        have kR1 := kR k0 K178.out
        rw [hraw] at kR1
        have kseg := fun (w : World) (C : Cst W ⟨mb, mr, ms, mc, my⟩ pl a b W.heap.size (W.heap.size + 1) w2.heap.size c.P E0 D0 (.slice se k0 me) (.slice sd D0.length md9) (some ⟨bs, os, none⟩) ns w) => segR_c C (s := some ⟨bo, off + k0, none⟩) (Ls := cut9 A k0 n) (n := n) (mm - k0) (holdsZ_part HZ.out k0 n) (cut9_len A k0 n KN.out) N178.out hsyL hcdk
        have HKS := Lib.hid kseg
        clear hsyL hcdk kseg hraw
        go_wp2_with (first | (go_at_call 37; (with_reducible refine (kR1 _).mono ?_); rintro e w4 ⟨rfl, hb⟩; have C4 := Lib.hid (hC.out.step hb); clear hb))
        have C4d := Lib.hid (C4.out.step (Below.refl w4.heap.size w4).drew)
        obtain ⟨d0, d1, d2, d3, d4⟩ := md C4d.out.mb
        have kseg := HKS.out _ C4d.out
        clear c1 c2 c0 kR1 m0 m1 m2 m3 m4
        go_region_held3 (fun w' => w'.cell? ⟨W.heap.size, 2, none⟩ = some (.bool ms)) (first | (with_reducible exact d2) | (with_reducible exact n2) | fail) (first | (go_simp; go_at_call 38; (with_reducible refine kseg.mono ?_); rintro e w5 ⟨ss, p5, sl, ml, rfl, hI5, hB5, hT5, hN5, hF5, hC5⟩; have I5 := Lib.hid hI5; have B5 := Lib.hid hB5; have T5 := Lib.hid hT5; have N5 := Lib.hid hN5; have F5 := Lib.hid hF5; have C5 := Lib.hid hC5; have n2 : w5.cell? ⟨W.heap.size, 2, none⟩ = some (.bool ms) := hC5.mb.cell 2; clear hI5 hB5 hT5 hN5 hF5 hC5) | fail)
        have K5 := Lib.hid (Kk.start C4d.out C5.out I5.out B5.out T5.out F5.out)
        have HZN := Lib.hid (cdZ_nn ⟨mb, mr, ms, mc, my⟩ c (cut9 A k0 n))
        have HZL := Lib.hid (show (cdZ ⟨mb, mr, ms, mc, my⟩ c (cut9 A k0 n)).length = n by rw [cdZ_len]; exact cut9_len A k0 n KN.out)
        have HES := Lib.hid (show cdE ⟨mb, mr, ms, mc, my⟩ c (cut9 A k0 n) = (cdZ ⟨mb, mr, ms, mc, my⟩ c (cut9 A k0 n)).map fun z => (D0.length : Int) + min z ((cdB ⟨mb, mr, ms, mc, my⟩ c (cut9 A k0 n)).length : Int) by rw [HCDD.out]; rfl)
        have HB9 := hB9
        obtain ⟨zs, hzs⟩ : ∃ x, x = cdZ ⟨mb, mr, ms, mc, my⟩ c (cut9 A k0 n) := ⟨_, rfl⟩
        obtain ⟨dat, hdat⟩ : ∃ x, x = cdB ⟨mb, mr, ms, mc, my⟩ c (cut9 A k0 n) := ⟨_, rfl⟩
        obtain ⟨es, hes⟩ : ∃ x, x = cdE ⟨mb, mr, ms, mc, my⟩ c (cut9 A k0 n) := ⟨_, rfl⟩
        obtain ⟨P1, hP1⟩ : ∃ x, x = cdP ⟨mb, mr, ms, mc, my⟩ c (cut9 A k0 n) := ⟨_, rfl⟩
        rw [← hzs] at K5 HZN HZL HES
        rw [← hdat] at K5 HES HB9 N5 ⊢
        rw [← hes] at HES
        rw [← hP1] at C5
        have HDAT := Lib.hid hdat
        have HESE := Lib.hid hes
        have HPE := Lib.hid hP1
        have C5s : Hid (Cst W ⟨mb, mr, ms, mc, my⟩ pl a b W.heap.size (W.heap.size + 1) w2.heap.size P1 (E0 ++ es.take 0) D0 (.slice se k0 me) (.slice sd D0.length md9) (some ⟨bs, os, none⟩) ns w5) := by rw [List.take_zero, List.append_nil]; exact C5
        clear hzs hdat hes hP1 I5 B5 T5 F5 C5 n2 d0 d1 d2 d3 d4 kseg HKS C4 hB9 hC
        go_wp2_with fail
        clear C4d
        obtain ⟨wr0, rfl⟩ : ∃ z, z = w5 := ⟨_, rfl⟩
        go_loopw [63] (fun i wr => ∃ (j : Nat) (ev : Value), j ≤ n ∧ i = .int .i64 (j : Int) ∧ Hid (Cst W ⟨mb, mr, ms, mc, my⟩ pl a b W.heap.size (W.heap.size + 1) w2.heap.size P1 (E0 ++ es.take j) D0 ev (.slice sd D0.length md9) (some ⟨bs, os, none⟩) ns wr) ∧ Hid (Kk ev w2.heap.size ss sl zs dat wr)) (fun i _ => n - (intOf i).toNat)
        case atStart => exact ⟨0, _, Nat.zero_le _, rfl, C5s, K5⟩
        case round =>
          obtain ⟨j, ev, hj, rfl, hC, hK⟩ := hrel
          obtain ⟨Ej, hEj⟩ : ∃ x, x = E0 ++ es.take j := ⟨_, rfl⟩
          rw [← hEj] at hC
          obtain ⟨se2, me2, rfl⟩ := own_slice hC.out.er
          have HEJ := Lib.hid hEj
          clear hEj
          have c1 := hC.out.cb.cell 1
          have c2 := hC.out.cb.cell 2
          by_cases hjt : j < n
          · have hjz : j < zs.length := by have := HZL.out; omega
            obtain ⟨b6, o6, rfl, hz6⟩ := hK.out.hi.resolve_left (fun h => by rw [h] at hjz; simp at hjz)
            have c0 := hz6 j hjz
            have hzn := HZN.out _ (List.getElem_mem hjz)
            have hje : j < es.length := by rw [HES.out, List.length_map]; exact hjz
            have hesj : es[j] = (D0.length : Int) + min zs[j] (dat.length : Int) := by
              have h := HES.out
              subst h
              rw [List.getElem_map]
            have htk : E0 ++ es.take (j + 1) = Ej ++ [es[j]] := by rw [take_s hje, HEJ.out, List.append_assoc]
            have hEl2 : Ej.length = k0 + j := by rw [HEJ.out, List.length_append, HEL.out, List.length_take]; omega
            rw [hesj] at htk
            obtain ⟨z, hz⟩ : ∃ z, z = zs[j] := ⟨_, rfl⟩
            rw [← hz] at c0 hzn htk
            obtain ⟨mn, hmn1⟩ : ∃ x, x = min z (dat.length : Int) := ⟨_, rfl⟩
            rw [← hmn1] at htk
            have hmn2 : min z (dat.length : Int) = mn := hmn1.symm
            have hmn3 : (if (dat.length : Int) < z then (dat.length : Int) else z) = mn := by rw [hmn1]; exact hmn z dat.length
            have wD : IntKind.i64.wrap ((D0.length : Int) + mn) = (D0.length : Int) + mn := by have := HB9.out; have := hD.out; have := HNL.out; have := HLT.out; rw [IntWalk.i64_left]; unfold wrap64; omega
            have wj : IntKind.i64.wrap ((j : Int) + 1) = ((j + 1 : Nat) : Int) := by have := NA.out; rw [IntWalk.i64_left]; unfold wrap64; omega
            have her := hC.out.er
            rw [hEl2] at her
            rw [hEl2] at c1
            have HER := Lib.hid her
            have HTK := Lib.hid htk
            have HJT := Lib.hid hjt
            have HEL2 := Lib.hid hEl2
            have hws : W.heap.size ≤ wr.heap.size := hC.out.out.size
            clear her htk hjt hEl2 hesj hje hz6 hjz hz hmn1 hzn hj
            go_wp2_with (first | (at_builtin; refine wpList_append_own_at _ rfl _ _ 22 rfl W.heap.size 3 i0 (.int .i64 0) 1 8 Tryd.underlying22 hi1 hz0 hz1 hz2 rfl (by decide) _ (k0 + j) _ rfl (own_below HER.out ((Below.refl _ _).alloc (Nat.le_refl _) _)) ⟨wr.heap.size, 0, none⟩ 1 1 [.int .i64 ((D0.length : Int) + mn)] rfl rfl (one_new8 _ _ _) (by intro u hu; simp at hu; subst hu; rfl) (by have := KA.out; have := NA.out; have := HJT.out; unfold maxLen; omega) (by have := KA.out; have := NA.out; have := HJT.out; omega) (by simp; omega) ?_))
            intro v' w6 hown hgrow _ hat
            obtain ⟨s7, m7, rfl⟩ := own_slice hown
            have hC1 : Cst W ⟨mb, mr, ms, mc, my⟩ pl a b W.heap.size (W.heap.size + 1) w2.heap.size P1 Ej D0 (.slice se2 (k0 + j) me2) (.slice sd D0.length md9) (some ⟨bs, os, none⟩) ns wr := by rw [← HEL2.out]; exact hC.out
            have hK1 : Kk (.slice se2 (k0 + j) me2) w2.heap.size (some ⟨b6, o6, none⟩) sl zs dat wr := by rw [← HEL2.out]; exact hK.out
            obtain ⟨G1, B6, G2⟩ := hC1.growE (z := (D0.length : Int) + mn) (by rw [HEL2.out]; exact hown) hgrow (hat.imp id fun e => e.trans (by simp))
            have G3 := Lib.hid (hK1.grow G2)
            rw [← HTK.out] at G1
            have G1 := Lib.hid G1
            have f6 := B6.free 1
            have x6 := B6.cell 1
            clear hown hgrow hat hC1 hK1 G2 B6
            go_wp2_with fail
            go_roundw
            case rel => exact ⟨j + 1, _, HJT.out, by go_num, G1, G3⟩
            case measure => have := HJT.out; simp [intOf]; omega
          · obtain rfl : j = n := by omega
            have hes : es.take j = es := List.take_of_length_le (by rw [HES.out, List.length_map, HZL.out]; exact Nat.le_refl _)
            have hE1 : Ej = (cdI M A ns (k + 1)).E := by rw [HEJ.out, hes, HSTEP.out, HMM.out, HESE.out, HCE.out]; unfold cdN; dsimp only; rw [HCK.out]; rfl
            have hD1 : D0 ++ dat = (cdI M A ns (k + 1)).D := by rw [HSTEP.out, HMM.out, HDAT.out, HCDD.out]; unfold cdN; dsimp only; rw [HCK.out]; rfl
            have hP1 : P1 = (cdI M A ns (k + 1)).P := by rw [HSTEP.out, HMM.out, HPE.out]; unfold cdN; dsimp only; rw [HCK.out]; rfl
            have hDl : (cdI M A ns (k + 1)).D.length ≤ 178001 * (k + 1) := by rw [← hD1, List.length_append]; have := HB9.out; have := hD.out; omega
            have HD1 := Lib.hid hD1
            have HE1 := Lib.hid hE1
            have HP1 := Lib.hid hP1
            have HDL := Lib.hid hDl
            have hws : W.heap.size ≤ wr.heap.size := hC.out.out.size
            have hbd : D0.length + dat.length ≤ 100000000 := by have := HB9.out; have := hD.out; have := HNL.out; have := HLT.out; omega
            have HBD := Lib.hid hbd
            have hN5 := N5.out
            have hKB := Lib.hid hK.out.hb
            clear hes hE1 hD1 hP1 hDl hbd hj hjt
            cases sl with
            | none =>
              obtain ⟨rfl, rfl⟩ := hN5 rfl
              have G1 : Hid (Cst W ⟨mb, mr, ms, mc, my⟩ pl a b W.heap.size (W.heap.size + 1) w2.heap.size P1 Ej (D0 ++ []) (.slice se2 Ej.length me2) (.slice sd D0.length md9) (some ⟨bs, os, none⟩) ns (wr.setCell ⟨w2.heap.size, 2, none⟩ (.slice sd D0.length md9))) :=
                (hC.out.growD (zs := []) (by simpa using hC.out.dr) ⟨rfl, rfl, rfl, Nat.le_refl _, fun _ _ _ => rfl⟩ (.inl rfl)).1
              have f6 := hC.out.cb.free 2
              rw [HE1.out, HD1.out, HP1.out] at G1
              have G1 := Lib.hid G1.out
              go_wp2_with (first | (at_builtin; refine wpList_append_own_none rfl _ _ 23 rfl W.heap.size 5 i8 1 Tryd.underlying23 hi8 (.slice sd D0.length md9) D0.length _ rfl hC.out.dr rfl ?_))
              go_roundw
              case rel => exact ⟨k + 1, _, _, HLT.out, by go_num, G1.out, HDL⟩
              case measure => have := HLT.out; simp [intOf]; omega
            | some q =>
              clear hN5
              go_wp2_with (first | (at_builtin; refine wpList_append_own_at _ rfl _ _ 23 rfl W.heap.size 5 i8 (.int .u8 0) 1 1 Tryd.underlying23 hi8 hy0 hy1 hy2 rfl (by decide) (.slice sd D0.length md9) D0.length _ rfl hC.out.dr q dat.length ml (dat.map (Value.int .u8)) rfl (by simp) (holdsB_list hKB.out) (one8 _) (by have := HBD.out; unfold maxLen; omega) (by have := HBD.out; omega) hws ?_))
              intro v' w6 hown hgrow _ hat
              obtain ⟨s7, m7, rfl⟩ := own_slice hown
              obtain ⟨G1, B6⟩ := hC.out.growD hown hgrow hat
              have f6 := B6.free 2
              have x6 := B6.cell 2
              rw [HE1.out, HD1.out, HP1.out] at G1
              have G1 := Lib.hid G1
              clear hown hgrow hat B6
              go_wp2_with fail
              go_roundw
              case rel => exact ⟨k + 1, _, _, HLT.out, by go_num, G1, HDL⟩
              case measure => have := HLT.out; simp [intOf]; omega

      · have hraw : rawM (k0 : Int) mb = false := by simpa using hraw
        have hsyL : ∀ L ∈ cut9 A k0 n, L.length ≤ 1000 ∧ ∀ y ∈ L, Am.sym 19 y := fun L hL => ⟨(HSY.out L hL).1, fun y hy => ((HSY.out L hL).2 y hy).2 hraw⟩
        have hcdk : rawM (c.k : Int) (⟨mb, mr, ms, mc, my⟩ : Mo).b = false := by rw [HCK.out]; exact hraw
        have kR1 := kR k0 K178.out
        rw [hraw] at kR1
        have kseg := fun (w : World) (C : Cst W ⟨mb, mr, ms, mc, my⟩ pl a b W.heap.size (W.heap.size + 1) w2.heap.size c.P E0 D0 (.slice se k0 me) (.slice sd D0.length md9) (some ⟨bs, os, none⟩) ns w) => segE_c C (s := some ⟨bo, off + k0, none⟩) (Ls := cut9 A k0 n) (n := n) (mm - k0) (holdsZ_part HZ.out k0 n) (cut9_len A k0 n KN.out) N178.out hsyL hcdk
        have HKS := Lib.hid kseg
        clear hsyL hcdk kseg hraw
        go_wp2_with (first | (go_at_call 37; (with_reducible refine (kR1 _).mono ?_); rintro e w4 ⟨rfl, hb⟩; have C4 := Lib.hid (hC.out.step hb); clear hb))
        have C4d := Lib.hid (C4.out.step (Below.refl w4.heap.size w4).drew)
        obtain ⟨d0, d1, d2, d3, d4⟩ := md C4d.out.mb
        have kseg := HKS.out _ C4d.out
        clear c1 c2 c0 kR1 m0 m1 m2 m3 m4
        go_region_held3 (fun w' => w'.cell? ⟨W.heap.size, 2, none⟩ = some (.bool ms)) (first | (with_reducible exact d2) | (with_reducible exact n2) | fail) (first | (go_simp; go_at_call 38; (with_reducible refine kseg.mono ?_); rintro e w5 ⟨ss, p5, sl, ml, rfl, hI5, hB5, hT5, hN5, hF5, hC5⟩; have I5 := Lib.hid hI5; have B5 := Lib.hid hB5; have T5 := Lib.hid hT5; have N5 := Lib.hid hN5; have F5 := Lib.hid hF5; have C5 := Lib.hid hC5; have n2 : w5.cell? ⟨W.heap.size, 2, none⟩ = some (.bool ms) := hC5.mb.cell 2; clear hI5 hB5 hT5 hN5 hF5 hC5) | fail)
        have K5 := Lib.hid (Kk.start C4d.out C5.out I5.out B5.out T5.out F5.out)
        have HZN := Lib.hid (cdZ_nn ⟨mb, mr, ms, mc, my⟩ c (cut9 A k0 n))
        have HZL := Lib.hid (show (cdZ ⟨mb, mr, ms, mc, my⟩ c (cut9 A k0 n)).length = n by rw [cdZ_len]; exact cut9_len A k0 n KN.out)
        have HES := Lib.hid (show cdE ⟨mb, mr, ms, mc, my⟩ c (cut9 A k0 n) = (cdZ ⟨mb, mr, ms, mc, my⟩ c (cut9 A k0 n)).map fun z => (D0.length : Int) + min z ((cdB ⟨mb, mr, ms, mc, my⟩ c (cut9 A k0 n)).length : Int) by rw [HCDD.out]; rfl)
        have HB9 := hB9
        obtain ⟨zs, hzs⟩ : ∃ x, x = cdZ ⟨mb, mr, ms, mc, my⟩ c (cut9 A k0 n) := ⟨_, rfl⟩
        obtain ⟨dat, hdat⟩ : ∃ x, x = cdB ⟨mb, mr, ms, mc, my⟩ c (cut9 A k0 n) := ⟨_, rfl⟩
        obtain ⟨es, hes⟩ : ∃ x, x = cdE ⟨mb, mr, ms, mc, my⟩ c (cut9 A k0 n) := ⟨_, rfl⟩
        obtain ⟨P1, hP1⟩ : ∃ x, x = cdP ⟨mb, mr, ms, mc, my⟩ c (cut9 A k0 n) := ⟨_, rfl⟩
        rw [← hzs] at K5 HZN HZL HES
        rw [← hdat] at K5 HES HB9 N5 ⊢
        rw [← hes] at HES
        rw [← hP1] at C5
        have HDAT := Lib.hid hdat
        have HESE := Lib.hid hes
        have HPE := Lib.hid hP1
        have C5s : Hid (Cst W ⟨mb, mr, ms, mc, my⟩ pl a b W.heap.size (W.heap.size + 1) w2.heap.size P1 (E0 ++ es.take 0) D0 (.slice se k0 me) (.slice sd D0.length md9) (some ⟨bs, os, none⟩) ns w5) := by rw [List.take_zero, List.append_nil]; exact C5
        clear hzs hdat hes hP1 I5 B5 T5 F5 C5 n2 d0 d1 d2 d3 d4 kseg HKS C4 hB9 hC
        go_wp2_with fail
        clear C4d
        obtain ⟨wr0, rfl⟩ : ∃ z, z = w5 := ⟨_, rfl⟩
        go_loopw [63] (fun i wr => ∃ (j : Nat) (ev : Value), j ≤ n ∧ i = .int .i64 (j : Int) ∧ Hid (Cst W ⟨mb, mr, ms, mc, my⟩ pl a b W.heap.size (W.heap.size + 1) w2.heap.size P1 (E0 ++ es.take j) D0 ev (.slice sd D0.length md9) (some ⟨bs, os, none⟩) ns wr) ∧ Hid (Kk ev w2.heap.size ss sl zs dat wr)) (fun i _ => n - (intOf i).toNat)
        case atStart => exact ⟨0, _, Nat.zero_le _, rfl, C5s, K5⟩
        case round =>
          obtain ⟨j, ev, hj, rfl, hC, hK⟩ := hrel
          obtain ⟨Ej, hEj⟩ : ∃ x, x = E0 ++ es.take j := ⟨_, rfl⟩
          rw [← hEj] at hC
          obtain ⟨se2, me2, rfl⟩ := own_slice hC.out.er
          have HEJ := Lib.hid hEj
          clear hEj
          have c1 := hC.out.cb.cell 1
          have c2 := hC.out.cb.cell 2
          by_cases hjt : j < n
          · have hjz : j < zs.length := by have := HZL.out; omega
            obtain ⟨b6, o6, rfl, hz6⟩ := hK.out.hi.resolve_left (fun h => by rw [h] at hjz; simp at hjz)
            have c0 := hz6 j hjz
            have hzn := HZN.out _ (List.getElem_mem hjz)
            have hje : j < es.length := by rw [HES.out, List.length_map]; exact hjz
            have hesj : es[j] = (D0.length : Int) + min zs[j] (dat.length : Int) := by
              have h := HES.out
              subst h
              rw [List.getElem_map]
            have htk : E0 ++ es.take (j + 1) = Ej ++ [es[j]] := by rw [take_s hje, HEJ.out, List.append_assoc]
            have hEl2 : Ej.length = k0 + j := by rw [HEJ.out, List.length_append, HEL.out, List.length_take]; omega
            rw [hesj] at htk
            obtain ⟨z, hz⟩ : ∃ z, z = zs[j] := ⟨_, rfl⟩
            rw [← hz] at c0 hzn htk
            obtain ⟨mn, hmn1⟩ : ∃ x, x = min z (dat.length : Int) := ⟨_, rfl⟩
            rw [← hmn1] at htk
            have hmn2 : min z (dat.length : Int) = mn := hmn1.symm
            have hmn3 : (if (dat.length : Int) < z then (dat.length : Int) else z) = mn := by rw [hmn1]; exact hmn z dat.length
            have wD : IntKind.i64.wrap ((D0.length : Int) + mn) = (D0.length : Int) + mn := by have := HB9.out; have := hD.out; have := HNL.out; have := HLT.out; rw [IntWalk.i64_left]; unfold wrap64; omega
            have wj : IntKind.i64.wrap ((j : Int) + 1) = ((j + 1 : Nat) : Int) := by have := NA.out; rw [IntWalk.i64_left]; unfold wrap64; omega
            have her := hC.out.er
            rw [hEl2] at her
            rw [hEl2] at c1
            have HER := Lib.hid her
            have HTK := Lib.hid htk
            have HJT := Lib.hid hjt
            have HEL2 := Lib.hid hEl2
            have hws : W.heap.size ≤ wr.heap.size := hC.out.out.size
            clear her htk hjt hEl2 hesj hje hz6 hjz hz hmn1 hzn hj
            go_wp2_with (first | (at_builtin; refine wpList_append_own_at _ rfl _ _ 22 rfl W.heap.size 3 i0 (.int .i64 0) 1 8 Tryd.underlying22 hi1 hz0 hz1 hz2 rfl (by decide) _ (k0 + j) _ rfl (own_below HER.out ((Below.refl _ _).alloc (Nat.le_refl _) _)) ⟨wr.heap.size, 0, none⟩ 1 1 [.int .i64 ((D0.length : Int) + mn)] rfl rfl (one_new8 _ _ _) (by intro u hu; simp at hu; subst hu; rfl) (by have := KA.out; have := NA.out; have := HJT.out; unfold maxLen; omega) (by have := KA.out; have := NA.out; have := HJT.out; omega) (by simp; omega) ?_))
            intro v' w6 hown hgrow _ hat
            obtain ⟨s7, m7, rfl⟩ := own_slice hown
            have hC1 : Cst W ⟨mb, mr, ms, mc, my⟩ pl a b W.heap.size (W.heap.size + 1) w2.heap.size P1 Ej D0 (.slice se2 (k0 + j) me2) (.slice sd D0.length md9) (some ⟨bs, os, none⟩) ns wr := by rw [← HEL2.out]; exact hC.out
            have hK1 : Kk (.slice se2 (k0 + j) me2) w2.heap.size (some ⟨b6, o6, none⟩) sl zs dat wr := by rw [← HEL2.out]; exact hK.out
            obtain ⟨G1, B6, G2⟩ := hC1.growE (z := (D0.length : Int) + mn) (by rw [HEL2.out]; exact hown) hgrow (hat.imp id fun e => e.trans (by simp))
            have G3 := Lib.hid (hK1.grow G2)
            rw [← HTK.out] at G1
            have G1 := Lib.hid G1
            have f6 := B6.free 1
            have x6 := B6.cell 1
            clear hown hgrow hat hC1 hK1 G2 B6
            go_wp2_with fail
            go_roundw
            case rel => exact ⟨j + 1, _, HJT.out, by go_num, G1, G3⟩
            case measure => have := HJT.out; simp [intOf]; omega
          · obtain rfl : j = n := by omega
            have hes : es.take j = es := List.take_of_length_le (by rw [HES.out, List.length_map, HZL.out]; exact Nat.le_refl _)
            have hE1 : Ej = (cdI M A ns (k + 1)).E := by rw [HEJ.out, hes, HSTEP.out, HMM.out, HESE.out, HCE.out]; unfold cdN; dsimp only; rw [HCK.out]; rfl
            have hD1 : D0 ++ dat = (cdI M A ns (k + 1)).D := by rw [HSTEP.out, HMM.out, HDAT.out, HCDD.out]; unfold cdN; dsimp only; rw [HCK.out]; rfl
            have hP1 : P1 = (cdI M A ns (k + 1)).P := by rw [HSTEP.out, HMM.out, HPE.out]; unfold cdN; dsimp only; rw [HCK.out]; rfl
            have hDl : (cdI M A ns (k + 1)).D.length ≤ 178001 * (k + 1) := by rw [← hD1, List.length_append]; have := HB9.out; have := hD.out; omega
            have HD1 := Lib.hid hD1
            have HE1 := Lib.hid hE1
            have HP1 := Lib.hid hP1
            have HDL := Lib.hid hDl
            have hws : W.heap.size ≤ wr.heap.size := hC.out.out.size
            have hbd : D0.length + dat.length ≤ 100000000 := by have := HB9.out; have := hD.out; have := HNL.out; have := HLT.out; omega
            have HBD := Lib.hid hbd
            have hN5 := N5.out
            have hKB := Lib.hid hK.out.hb
            clear hes hE1 hD1 hP1 hDl hbd hj hjt
            cases sl with
            | none =>
              obtain ⟨rfl, rfl⟩ := hN5 rfl
              have G1 : Hid (Cst W ⟨mb, mr, ms, mc, my⟩ pl a b W.heap.size (W.heap.size + 1) w2.heap.size P1 Ej (D0 ++ []) (.slice se2 Ej.length me2) (.slice sd D0.length md9) (some ⟨bs, os, none⟩) ns (wr.setCell ⟨w2.heap.size, 2, none⟩ (.slice sd D0.length md9))) :=
                (hC.out.growD (zs := []) (by simpa using hC.out.dr) ⟨rfl, rfl, rfl, Nat.le_refl _, fun _ _ _ => rfl⟩ (.inl rfl)).1
              have f6 := hC.out.cb.free 2
              rw [HE1.out, HD1.out, HP1.out] at G1
              have G1 := Lib.hid G1.out
              go_wp2_with (first | (at_builtin; refine wpList_append_own_none rfl _ _ 23 rfl W.heap.size 5 i8 1 Tryd.underlying23 hi8 (.slice sd D0.length md9) D0.length _ rfl hC.out.dr rfl ?_))
              go_roundw
              case rel => exact ⟨k + 1, _, _, HLT.out, by go_num, G1.out, HDL⟩
              case measure => have := HLT.out; simp [intOf]; omega
            | some q =>
              clear hN5
              go_wp2_with (first | (at_builtin; refine wpList_append_own_at _ rfl _ _ 23 rfl W.heap.size 5 i8 (.int .u8 0) 1 1 Tryd.underlying23 hi8 hy0 hy1 hy2 rfl (by decide) (.slice sd D0.length md9) D0.length _ rfl hC.out.dr q dat.length ml (dat.map (Value.int .u8)) rfl (by simp) (holdsB_list hKB.out) (one8 _) (by have := HBD.out; unfold maxLen; omega) (by have := HBD.out; omega) hws ?_))
              intro v' w6 hown hgrow _ hat
              obtain ⟨s7, m7, rfl⟩ := own_slice hown
              obtain ⟨G1, B6⟩ := hC.out.growD hown hgrow hat
              have f6 := B6.free 2
              have x6 := B6.cell 2
              rw [HE1.out, HD1.out, HP1.out] at G1
              have G1 := Lib.hid G1
              clear hown hgrow hat B6
              go_wp2_with fail
              go_roundw
              case rel => exact ⟨k + 1, _, _, HLT.out, by go_num, G1, HDL⟩
              case measure => have := HLT.out; simp [intOf]; omega
    · obtain rfl : k = ns.length := by omega
      have c1 := hC.out.cb.cell 1
      have c2 := hC.out.cb.cell 2
      have c00 := hC.out.cb.cell 0
      have b0 := hC.out.rb.cell 0
      have b1 := hC.out.rb.cell 1
      have b2 := hC.out.rb.cell 2
      have f0 := hC.out.rb.free 0
      have f1 := hC.out.rb.free 1
      have f2 := hC.out.rb.free 2
      have hCV : Hid (∀ W1 : World, (∀ k, k ≠ W.heap.size + 1 → W1.heap[k]? = wr.heap[k]?) → CvAt W1 (.agg #[.int .i64 pl, .slice se (cdI M A ns ns.length).E.length me, .slice sd (cdI M A ns ns.length).D.length md9]) pl (cdI M A ns ns.length).E (cdI M A ns ns.length).D ∧ CvNew W.heap.size (.agg #[.int .i64 pl, .slice se (cdI M A ns ns.length).E.length me, .slice sd (cdI M A ns ns.length).D.length md9])) := by
        intro W1 hk
        obtain ⟨i1, i2, i3⟩ := own_capI hC.out.er
        obtain ⟨_, sd', md', e9, j1, ⟨j2, _⟩, j3⟩ := HoldsB.of_own hC.out.dr
        simp at e9
        obtain ⟨rfl, rfl⟩ := e9
        have hn1 : ∀ p, se = some p → p.block ≠ W.heap.size + 1 := fun p hp e => by
          obtain ⟨_, ds, h⟩ := own_foot hC.out.er (k := p.block) (by rw [hp]; rfl)
          exact (h.ne hC.out.rb (by decide)) e
        have hn2 : ∀ p, sd = some p → p.block ≠ W.heap.size + 1 := fun p hp e => by
          obtain ⟨_, ds, h⟩ := own_foot hC.out.dr (k := p.block) (by rw [hp]; rfl)
          exact (h.ne hC.out.rb (by decide)) e
        refine ⟨⟨se, me, sd, md9, rfl, holdsI_far i1 fun p hp => hk _ (hn1 p hp), holdsB_far j1 fun p hp => hk _ (hn2 p hp), i2, j2, i3, j3⟩, fun x se' ne' me' sd' nd' md' e => ?_⟩
        simp at e
        obtain ⟨_, ⟨rfl, _⟩, rfl, _⟩ := e
        exact ⟨fun p hp => (own_foot hC.out.er (k := p.block) (by rw [hp]; rfl)).1, fun p hp => (own_foot hC.out.dr (k := p.block) (by rw [hp]; rfl)).1⟩
      have hOut := Lib.hid hC.out.out
      have hRB0 := hC.out.rb
      obtain ⟨D9, hD9⟩ : ∃ x, x = (cdI M A ns ns.length).D := ⟨_, rfl⟩
      obtain ⟨E9, hE9⟩ : ∃ x, x = (cdI M A ns ns.length).E := ⟨_, rfl⟩
      rw [← hD9, ← hE9] at hCV ⊢
      rw [← hE9, ← hD9] at c1 c2 c00
      have HD9 := Lib.hid hD9
      have HE9 := Lib.hid hE9
      clear hD9 hE9 hC hD hk hlt
      have hRB := Lib.hid hRB0
      clear hRB0
      by_cases hb : 65535 < D9.length
      · have hbi : (65535 : Int) < (D9.length : Int) := by omega
        have HBI := Lib.hid hb
        clear hb
        go_wp2_with fail
        (try simp only [Exit.inBlock, Exit.then])
        refine bodyPost_ret (results_coded rfl _ rfl rfl (hRB.out.set3 _ _ _)) rfl ?_
        rw [← HD9.out, ← HE9.out]
        refine ⟨?_, .inl ⟨HBI.out, rfl⟩⟩
        exact ((hOut.out.setCell (p := ⟨W.heap.size + 1, 0, none⟩) (by show W.heap.size ≤ W.heap.size + 1; omega) _).setCell (p := ⟨W.heap.size + 1, 1, none⟩) (by show W.heap.size ≤ W.heap.size + 1; omega) _).setCell (p := ⟨W.heap.size + 1, 2, none⟩) (by show W.heap.size ≤ W.heap.size + 1; omega) _
      · have hbi : ¬ (65535 : Int) < (D9.length : Int) := by omega
        have HBI := Lib.hid hb
        clear hb
        go_wp2_with fail
        (try simp only [Exit.inBlock, Exit.then])
        refine bodyPost_ret (results_coded rfl _ rfl rfl (hRB.out.set3 _ _ _)) rfl ?_
        rw [← HD9.out, ← HE9.out]
        refine ⟨?_, .inr ⟨by have := HBI.out; omega, _, rfl, (hCV.out _ fun k hk => ?_).1, (hCV.out wr fun _ _ => rfl).2⟩⟩
        · exact ((hOut.out.setCell (p := ⟨W.heap.size + 1, 0, none⟩) (by show W.heap.size ≤ W.heap.size + 1; omega) _).setCell (p := ⟨W.heap.size + 1, 1, none⟩) (by show W.heap.size ≤ W.heap.size + 1; omega) _).setCell (p := ⟨W.heap.size + 1, 2, none⟩) (by show W.heap.size ≤ W.heap.size + 1; omega) _
        · rw [Below.heap_setCell _ _ _ k hk, Below.heap_setCell _ _ _ k hk, Below.heap_setCell _ _ _ k hk]
end Go.Proofs.YtklchodbnjebnaaDoor
