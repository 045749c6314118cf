/-
  Layer 10: a call of one tree (alike with nil).
-/
import Derived.Test.YtaddendclipkkaaCb
set_option maxRecDepth 100000
namespace Go.Proofs.Ytaddendclipkkaa
open Go.RowKit

/-- One tree. -/
structure To (W0 : World) (A1 L1 : Nat) (n1 : Nat → Nat) (w h D : Nat) (u1 : Int) (Q1 : Nat → Nat → Nat → Nd) (W : World) : Prop where
  a : Tr W W0.heap.size A1 L1 n1 w h D u1 Q1
  below : Below W0.heap.size W0 W
section
variable {W0 W W1 : World} {A1 L1 w h D : Nat} {n1 : Nat → Nat} {u1 u' : Int} {Q1 Q' : Nat → Nat → Nat → Nd} {P : Nat → Prop}
theorem To.step (H : To W0 A1 L1 n1 w h D u1 Q1 W) (hb : Below W.heap.size W W1) : To W0 A1 L1 n1 w h D u1 Q1 W1 := ⟨H.a.below hb, below_call H.below hb⟩
theorem To.op (H : To W0 A1 L1 n1 w h D u1 Q1 W) (hT : Tr W1 W0.heap.size A1 L1 n1 w h D u' Q') (hk : Kf (fun k => P k ∨ Tf A1 L1 n1 D k) W W1) (hP : ∀ k, P k → W0.heap.size ≤ k) : To W0 A1 L1 n1 w h D u' Q' W1 :=
  ⟨hT, H.below.trans (hk.below (fun k hk => hk.elim (fun h1 => hP k h1) (fun h1 => (H.a.foot k h1).1)) H.below.size)⟩
/-- All of alike with one tree. -/
structure Ao (W0 : World) (A1 L1 : Nat) (n1 : Nat → Nat) (w h D : Nat) (u1 : Int) (Q1 : Nat → Nat → Nat → Nd) (a b x y : Nat) (bs s1 s2 : List Int) (t1 t2 : Nat) (g : Nat) (o : OpT) (W : World) : Prop where
  tt : To W0 A1 L1 n1 w h D u1 Q1 W
  al : Al W0.heap.size a b x y bs s1 s2 t1 t2 W
  bo : Bo W g o
end
set_option maxHeartbeats 4000000
theorem alone_0 {W0 W : World} {A1 L1 w h D : Nat} {n1 : Nat → Nat} {u : Int} {Q : Nat → Nat → Nat → Nd} (H : To W0 A1 L1 n1 w h D u Q W) (hJ : Jv w h u Q) (ok ox oy ov : Int) (hk : ok = 0) :
    Calls Try.prog 43 #[.pointer (some ⟨A1, 0, none⟩), .pointer none, .agg #[.int .i64 ok, .int .i64 ox, .int .i64 oy, .int .i64 ov]] W fun e w' => e = .returned (.bool true) ∧ ∃ u' Q', Jv w h u' Q' ∧ To W0 A1 L1 n1 w h D u' Q' w' := by
  subst hk
  have hA := below_alloc (Below.refl _ W) (.cells #[.int .i64 0, .int .i64 ox, .int .i64 oy, .int .i64 ov] 56)
  have B0 : Hid (Bo (W.alloc (.cells #[.int .i64 0, .int .i64 ox, .int .i64 oy, .int .i64 ov] 56)) W.heap.size ⟨0, ox, oy, ov⟩) := Lib.hid (Bo.new W ⟨0, ox, oy, ov⟩)
  have T0 := Lib.hid (H.step hA)
  have JV := Lib.hid hJ
  have Z0 : Hid (W0.heap.size ≤ (W.alloc (.cells #[.int .i64 0, .int .i64 ox, .int .i64 oy, .int .i64 ov] 56)).heap.size) := Lib.hid (Nat.le_trans H.below.size hA.size)
  clear H hA hJ
  have nt := nilT
  go_enter Try.func43, Try.ntmps43
  go_wp2_with fail
  generalize W.heap.size = g at *
  generalize W.alloc (.cells #[.int .i64 0, .int .i64 ox, .int .i64 oy, .int .i64 ov] 56) = x0 at *
  refine (new_c _).mono ?_
  rintro e w1 ⟨a, rfl, h1, hb⟩
  have T1 := Lib.hid (T0.out.step hb)
  have B1 := Lib.hid (B0.out.below hb)
  have W1 := Lib.hid h1
  have Z1 := Lib.hid (And.intro Z0.out hb.size)
  clear h1 hb T0 B0
  go_wp2_with fail
  refine (new_c _).mono ?_
  rintro e w2 ⟨b, rfl, h1, hb⟩
  have T2 := Lib.hid (T1.out.step hb)
  have B2 := Lib.hid (B1.out.below hb)
  have W2 := Lib.hid (And.intro h1 hb)
  obtain ⟨q0, q1, q2, q3⟩ := B2.out.cells
  dsimp only at q0 q1 q2 q3
  clear h1 hb T1 B1
  go_wp2_with fail
  have hbd := below_alloc (Below.refl _ w2) (.cells ((dat ox oy ov).map (Value.int .u8)).toArray 5)
  have HD := holdsB_nw w2 (dat ox oy ov)
  change HoldsB (w2.alloc (.cells #[.int .u8 (wrap64 (37 * ov) % 256), .int .u8 (wrap64 (wrap64 (91 * ox) + wrap64 (7 * oy)) % 256), .int .u8 90] 5)) _ _ at HD
  change Below _ _ (w2.alloc (.cells #[.int .u8 (wrap64 (37 * ov) % 256), .int .u8 (wrap64 (wrap64 (91 * ox) + wrap64 (7 * oy)) % 256), .int .u8 90] 5)) at hbd
  have T3 := Lib.hid (T2.out.step hbd)
  have B3 := Lib.hid (B2.out.below hbd)
  have DB := Lib.hid (dat_bytes ox oy ov)
  have HB3 := Lib.hid hbd
  have DL : (dat ox oy ov).length = 3 := rfl
  have W3 := Lib.hid HD
  clear hbd T2 B2 q0 q1 q2 q3 HD
  generalize w2.alloc (.cells #[.int .u8 (wrap64 (37 * ov) % 256), .int .u8 (wrap64 (wrap64 (91 * ox) + wrap64 (7 * oy)) % 256), .int .u8 90] 5) = w3 at *
  have rn := fun (X : World) (m : Nat) (hX : Below w3.heap.size w3 X) => rnew_c X (dat ox oy ov) (some ⟨w2.heap.size, 0, none⟩) m (W3.out.call hX) (by simp) (by rw [DL]; omega)
  rw [DL] at rn
  generalize dat ox oy ov = bs at *
  generalize w2.heap.size = gd at rn ⊢
  refine (rn _ _ (Below.refl _ _)).mono ?_
  rintro e w4 ⟨x, rfl, h1, hb⟩
  have T4 := Lib.hid (T3.out.step hb)
  have B4 := Lib.hid (B3.out.below hb)
  have W4 := Lib.hid (And.intro h1 hb)
  clear h1 hb T3 B3
  go_wp2_with fail
  refine (rn _ _ W4.out.2).mono ?_
  rintro e w5 ⟨y, rfl, h1, hb⟩
  have S5 : Hid (Ao W0 A1 L1 n1 w h D u Q a b x y bs [] [] 0 0 g ⟨0, ox, oy, ov⟩ w5) := Lib.hid ⟨T4.out.step hb, al_mk (Z1.out.1) Z1.out.2 W1.out W2.out.1 W2.out.2 HB3.out W4.out.1 W4.out.2 h1 hb, B4.out.below hb⟩
  clear h1 hb T4 B4 rn W1 W2 W3 W4 HB3 Z0 Z1
  obtain ⟨q0, q1, q2, q3⟩ := S5.out.bo.cells
  dsimp only at q0 q1 q2 q3
  have c1 := setJ S5.out.tt.a JV.out ox oy ov
  have JN := Lib.hid (jv_set (w := w) (h := h) (u := u) (Q := Q) ox oy ov)
  go_wp2_with fail
  refine c1.mono ?_
  rintro e w6 ⟨rfl, hT, hkf⟩
  have S6 := Lib.hid (S5.out.tt.op hT (kf_or hkf) (fun _ h => h.elim))
  clear hT hkf c1 S5 q0 q1 q2 q3
  go_wp2_with fail
  go_ret
  exact ⟨rfl, u, _, JN.out, S6.out⟩
theorem alone_1 {W0 W : World} {A1 L1 w h D : Nat} {n1 : Nat → Nat} {u : Int} {Q : Nat → Nat → Nat → Nd} (H : To W0 A1 L1 n1 w h D u Q W) (hJ : Jv w h u Q) (ok ox oy ov : Int) (hk : ok = 1) :
    Calls Try.prog 43 #[.pointer (some ⟨A1, 0, none⟩), .pointer none, .agg #[.int .i64 ok, .int .i64 ox, .int .i64 oy, .int .i64 ov]] W fun e w' => e = .returned (.bool true) ∧ ∃ u' Q', Jv w h u' Q' ∧ To W0 A1 L1 n1 w h D u' Q' w' := by
  subst hk
  have hA := below_alloc (Below.refl _ W) (.cells #[.int .i64 1, .int .i64 ox, .int .i64 oy, .int .i64 ov] 56)
  have B0 : Hid (Bo (W.alloc (.cells #[.int .i64 1, .int .i64 ox, .int .i64 oy, .int .i64 ov] 56)) W.heap.size ⟨1, ox, oy, ov⟩) := Lib.hid (Bo.new W ⟨1, ox, oy, ov⟩)
  have T0 := Lib.hid (H.step hA)
  have JV := Lib.hid hJ
  have Z0 : Hid (W0.heap.size ≤ (W.alloc (.cells #[.int .i64 1, .int .i64 ox, .int .i64 oy, .int .i64 ov] 56)).heap.size) := Lib.hid (Nat.le_trans H.below.size hA.size)
  clear H hA hJ
  have nt := nilT
  go_enter Try.func43, Try.ntmps43
  go_wp2_with fail
  generalize W.heap.size = g at *
  generalize W.alloc (.cells #[.int .i64 1, .int .i64 ox, .int .i64 oy, .int .i64 ov] 56) = x0 at *
  refine (new_c _).mono ?_
  rintro e w1 ⟨a, rfl, h1, hb⟩
  have T1 := Lib.hid (T0.out.step hb)
  have B1 := Lib.hid (B0.out.below hb)
  have W1 := Lib.hid h1
  have Z1 := Lib.hid (And.intro Z0.out hb.size)
  clear h1 hb T0 B0
  go_wp2_with fail
  refine (new_c _).mono ?_
  rintro e w2 ⟨b, rfl, h1, hb⟩
  have T2 := Lib.hid (T1.out.step hb)
  have B2 := Lib.hid (B1.out.below hb)
  have W2 := Lib.hid (And.intro h1 hb)
  obtain ⟨q0, q1, q2, q3⟩ := B2.out.cells
  dsimp only at q0 q1 q2 q3
  clear h1 hb T1 B1
  go_wp2_with fail
  have hbd := below_alloc (Below.refl _ w2) (.cells ((dat ox oy ov).map (Value.int .u8)).toArray 5)
  have HD := holdsB_nw w2 (dat ox oy ov)
  change HoldsB (w2.alloc (.cells #[.int .u8 (wrap64 (37 * ov) % 256), .int .u8 (wrap64 (wrap64 (91 * ox) + wrap64 (7 * oy)) % 256), .int .u8 90] 5)) _ _ at HD
  change Below _ _ (w2.alloc (.cells #[.int .u8 (wrap64 (37 * ov) % 256), .int .u8 (wrap64 (wrap64 (91 * ox) + wrap64 (7 * oy)) % 256), .int .u8 90] 5)) at hbd
  have T3 := Lib.hid (T2.out.step hbd)
  have B3 := Lib.hid (B2.out.below hbd)
  have DB := Lib.hid (dat_bytes ox oy ov)
  have HB3 := Lib.hid hbd
  have DL : (dat ox oy ov).length = 3 := rfl
  have W3 := Lib.hid HD
  clear hbd T2 B2 q0 q1 q2 q3 HD
  generalize w2.alloc (.cells #[.int .u8 (wrap64 (37 * ov) % 256), .int .u8 (wrap64 (wrap64 (91 * ox) + wrap64 (7 * oy)) % 256), .int .u8 90] 5) = w3 at *
  have rn := fun (X : World) (m : Nat) (hX : Below w3.heap.size w3 X) => rnew_c X (dat ox oy ov) (some ⟨w2.heap.size, 0, none⟩) m (W3.out.call hX) (by simp) (by rw [DL]; omega)
  rw [DL] at rn
  generalize dat ox oy ov = bs at *
  generalize w2.heap.size = gd at rn ⊢
  refine (rn _ _ (Below.refl _ _)).mono ?_
  rintro e w4 ⟨x, rfl, h1, hb⟩
  have T4 := Lib.hid (T3.out.step hb)
  have B4 := Lib.hid (B3.out.below hb)
  have W4 := Lib.hid (And.intro h1 hb)
  clear h1 hb T3 B3
  go_wp2_with fail
  refine (rn _ _ W4.out.2).mono ?_
  rintro e w5 ⟨y, rfl, h1, hb⟩
  have S5 : Hid (Ao W0 A1 L1 n1 w h D u Q a b x y bs [] [] 0 0 g ⟨1, ox, oy, ov⟩ w5) := Lib.hid ⟨T4.out.step hb, al_mk (Z1.out.1) Z1.out.2 W1.out W2.out.1 W2.out.2 HB3.out W4.out.1 W4.out.2 h1 hb, B4.out.below hb⟩
  clear h1 hb T4 B4 rn W1 W2 W3 W4 HB3 Z0 Z1
  obtain ⟨q0, q1, q2, q3⟩ := S5.out.bo.cells
  dsimp only at q0 q1 q2 q3
  have c1 := encode_c S5.out.tt.a S5.out.al.wa Bi.bits_nil (by simp) ox oy ov
  have JN := Lib.hid (jv_enc (D := D) (s := []) ox oy ov JV.out)
  go_wp2_with fail
  refine c1.mono ?_
  rintro e w6 ⟨rfl, hE⟩
  have S6 := Lib.hid (S5.out.tt.op hE.tr hE.kf (fun k h => (S5.out.al.wa.foot k h).1))
  clear hE c1 S5 q0 q1 q2 q3
  go_wp2_with fail
  go_ret
  exact ⟨rfl, _, _, JN.out, S6.out⟩
theorem alone_3 {W0 W : World} {A1 L1 w h D : Nat} {n1 : Nat → Nat} {u : Int} {Q : Nat → Nat → Nat → Nd} (H : To W0 A1 L1 n1 w h D u Q W) (hJ : Jv w h u Q) (ok ox oy ov : Int) (hk : ok = 3) :
    Calls Try.prog 43 #[.pointer (some ⟨A1, 0, none⟩), .pointer none, .agg #[.int .i64 ok, .int .i64 ox, .int .i64 oy, .int .i64 ov]] W fun e w' => e = .returned (.bool true) ∧ ∃ u' Q', Jv w h u' Q' ∧ To W0 A1 L1 n1 w h D u' Q' w' := by
  subst hk
  have hA := below_alloc (Below.refl _ W) (.cells #[.int .i64 3, .int .i64 ox, .int .i64 oy, .int .i64 ov] 56)
  have B0 : Hid (Bo (W.alloc (.cells #[.int .i64 3, .int .i64 ox, .int .i64 oy, .int .i64 ov] 56)) W.heap.size ⟨3, ox, oy, ov⟩) := Lib.hid (Bo.new W ⟨3, ox, oy, ov⟩)
  have T0 := Lib.hid (H.step hA)
  have JV := Lib.hid hJ
  have Z0 : Hid (W0.heap.size ≤ (W.alloc (.cells #[.int .i64 3, .int .i64 ox, .int .i64 oy, .int .i64 ov] 56)).heap.size) := Lib.hid (Nat.le_trans H.below.size hA.size)
  clear H hA hJ
  have nt := nilT
  go_enter Try.func43, Try.ntmps43
  go_wp2_with fail
  generalize W.heap.size = g at *
  generalize W.alloc (.cells #[.int .i64 3, .int .i64 ox, .int .i64 oy, .int .i64 ov] 56) = x0 at *
  refine (new_c _).mono ?_
  rintro e w1 ⟨a, rfl, h1, hb⟩
  have T1 := Lib.hid (T0.out.step hb)
  have B1 := Lib.hid (B0.out.below hb)
  have W1 := Lib.hid h1
  have Z1 := Lib.hid (And.intro Z0.out hb.size)
  clear h1 hb T0 B0
  go_wp2_with fail
  refine (new_c _).mono ?_
  rintro e w2 ⟨b, rfl, h1, hb⟩
  have T2 := Lib.hid (T1.out.step hb)
  have B2 := Lib.hid (B1.out.below hb)
  have W2 := Lib.hid (And.intro h1 hb)
  obtain ⟨q0, q1, q2, q3⟩ := B2.out.cells
  dsimp only at q0 q1 q2 q3
  clear h1 hb T1 B1
  go_wp2_with fail
  have hbd := below_alloc (Below.refl _ w2) (.cells ((dat ox oy ov).map (Value.int .u8)).toArray 5)
  have HD := holdsB_nw w2 (dat ox oy ov)
  change HoldsB (w2.alloc (.cells #[.int .u8 (wrap64 (37 * ov) % 256), .int .u8 (wrap64 (wrap64 (91 * ox) + wrap64 (7 * oy)) % 256), .int .u8 90] 5)) _ _ at HD
  change Below _ _ (w2.alloc (.cells #[.int .u8 (wrap64 (37 * ov) % 256), .int .u8 (wrap64 (wrap64 (91 * ox) + wrap64 (7 * oy)) % 256), .int .u8 90] 5)) at hbd
  have T3 := Lib.hid (T2.out.step hbd)
  have B3 := Lib.hid (B2.out.below hbd)
  have DB := Lib.hid (dat_bytes ox oy ov)
  have HB3 := Lib.hid hbd
  have DL : (dat ox oy ov).length = 3 := rfl
  have W3 := Lib.hid HD
  clear hbd T2 B2 q0 q1 q2 q3 HD
  generalize w2.alloc (.cells #[.int .u8 (wrap64 (37 * ov) % 256), .int .u8 (wrap64 (wrap64 (91 * ox) + wrap64 (7 * oy)) % 256), .int .u8 90] 5) = w3 at *
  have rn := fun (X : World) (m : Nat) (hX : Below w3.heap.size w3 X) => rnew_c X (dat ox oy ov) (some ⟨w2.heap.size, 0, none⟩) m (W3.out.call hX) (by simp) (by rw [DL]; omega)
  rw [DL] at rn
  generalize dat ox oy ov = bs at *
  generalize w2.heap.size = gd at rn ⊢
  refine (rn _ _ (Below.refl _ _)).mono ?_
  rintro e w4 ⟨x, rfl, h1, hb⟩
  have T4 := Lib.hid (T3.out.step hb)
  have B4 := Lib.hid (B3.out.below hb)
  have W4 := Lib.hid (And.intro h1 hb)
  clear h1 hb T3 B3
  go_wp2_with fail
  refine (rn _ _ W4.out.2).mono ?_
  rintro e w5 ⟨y, rfl, h1, hb⟩
  have S5 : Hid (Ao W0 A1 L1 n1 w h D u Q a b x y bs [] [] 0 0 g ⟨3, ox, oy, ov⟩ w5) := Lib.hid ⟨T4.out.step hb, al_mk (Z1.out.1) Z1.out.2 W1.out W2.out.1 W2.out.2 HB3.out W4.out.1 W4.out.2 h1 hb, B4.out.below hb⟩
  clear h1 hb T4 B4 rn W1 W2 W3 W4 HB3 Z0 Z1
  obtain ⟨q0, q1, q2, q3⟩ := S5.out.bo.cells
  dsimp only at q0 q1 q2 q3
  have c1 := decode_c S5.out.tt.a S5.out.al.rx (by omega) DB.out (by omega) ox oy ov
  have JN := Lib.hid (jv_dec (D := D) (tt := 0) (bs := bs) ox oy ov JV.out)
  generalize deB bs Q w h D u 0 ox oy ov = db at *
  go_wp2_with fail
  refine c1.mono ?_
  rintro e w6 ⟨rfl, hE⟩
  have S6 := Lib.hid (S5.out.tt.op hE.tr hE.kf (fun k h => (S5.out.al.rx.foot k h).1))
  clear hE c1 S5 q0 q1 q2 q3
  go_wp2_with fail
  go_ret
  exact ⟨rfl, _, _, JN.out, S6.out⟩
theorem alone_o {W0 W : World} {A1 L1 w h D : Nat} {n1 : Nat → Nat} {u : Int} {Q : Nat → Nat → Nat → Nd} (H : To W0 A1 L1 n1 w h D u Q W) (hJ : Jv w h u Q) (ok ox oy ov : Int) (k0 : ok ≠ 0) (k1 : ok ≠ 1) (k3 : ok ≠ 3) :
    Calls Try.prog 43 #[.pointer (some ⟨A1, 0, none⟩), .pointer none, .agg #[.int .i64 ok, .int .i64 ox, .int .i64 oy, .int .i64 ov]] W fun e w' => e = .returned (.bool true) ∧ ∃ u' Q', Jv w h u' Q' ∧ To W0 A1 L1 n1 w h D u' Q' w' := by
  have g0 : (ok == 0) = false := by simpa using k0
  have g1 : (ok == 1) = false := by simpa using k1
  have g3 : (ok == 3) = false := by simpa using k3
  clear k0 k1 k3
  have hA := below_alloc (Below.refl _ W) (.cells #[.int .i64 ok, .int .i64 ox, .int .i64 oy, .int .i64 ov] 56)
  have B0 : Hid (Bo (W.alloc (.cells #[.int .i64 ok, .int .i64 ox, .int .i64 oy, .int .i64 ov] 56)) W.heap.size ⟨ok, ox, oy, ov⟩) := Lib.hid (Bo.new W ⟨ok, ox, oy, ov⟩)
  have T0 := Lib.hid (H.step hA)
  have JV := Lib.hid hJ
  have Z0 : Hid (W0.heap.size ≤ (W.alloc (.cells #[.int .i64 ok, .int .i64 ox, .int .i64 oy, .int .i64 ov] 56)).heap.size) := Lib.hid (Nat.le_trans H.below.size hA.size)
  clear H hA hJ
  have nt := nilT
  go_enter Try.func43, Try.ntmps43
  go_wp2_with fail
  generalize W.heap.size = g at *
  generalize W.alloc (.cells #[.int .i64 ok, .int .i64 ox, .int .i64 oy, .int .i64 ov] 56) = x0 at *
  refine (new_c _).mono ?_
  rintro e w1 ⟨a, rfl, h1, hb⟩
  have T1 := Lib.hid (T0.out.step hb)
  have B1 := Lib.hid (B0.out.below hb)
  have W1 := Lib.hid h1
  have Z1 := Lib.hid (And.intro Z0.out hb.size)
  clear h1 hb T0 B0
  go_wp2_with fail
  refine (new_c _).mono ?_
  rintro e w2 ⟨b, rfl, h1, hb⟩
  have T2 := Lib.hid (T1.out.step hb)
  have B2 := Lib.hid (B1.out.below hb)
  have W2 := Lib.hid (And.intro h1 hb)
  obtain ⟨q0, q1, q2, q3⟩ := B2.out.cells
  dsimp only at q0 q1 q2 q3
  clear h1 hb T1 B1
  go_wp2_with fail
  have hbd := below_alloc (Below.refl _ w2) (.cells ((dat ox oy ov).map (Value.int .u8)).toArray 5)
  have HD := holdsB_nw w2 (dat ox oy ov)
  change HoldsB (w2.alloc (.cells #[.int .u8 (wrap64 (37 * ov) % 256), .int .u8 (wrap64 (wrap64 (91 * ox) + wrap64 (7 * oy)) % 256), .int .u8 90] 5)) _ _ at HD
  change Below _ _ (w2.alloc (.cells #[.int .u8 (wrap64 (37 * ov) % 256), .int .u8 (wrap64 (wrap64 (91 * ox) + wrap64 (7 * oy)) % 256), .int .u8 90] 5)) at hbd
  have T3 := Lib.hid (T2.out.step hbd)
  have B3 := Lib.hid (B2.out.below hbd)
  have DB := Lib.hid (dat_bytes ox oy ov)
  have HB3 := Lib.hid hbd
  have DL : (dat ox oy ov).length = 3 := rfl
  have W3 := Lib.hid HD
  clear hbd T2 B2 q0 q1 q2 q3 HD
  generalize w2.alloc (.cells #[.int .u8 (wrap64 (37 * ov) % 256), .int .u8 (wrap64 (wrap64 (91 * ox) + wrap64 (7 * oy)) % 256), .int .u8 90] 5) = w3 at *
  have rn := fun (X : World) (m : Nat) (hX : Below w3.heap.size w3 X) => rnew_c X (dat ox oy ov) (some ⟨w2.heap.size, 0, none⟩) m (W3.out.call hX) (by simp) (by rw [DL]; omega)
  rw [DL] at rn
  generalize dat ox oy ov = bs at *
  generalize w2.heap.size = gd at rn ⊢
  refine (rn _ _ (Below.refl _ _)).mono ?_
  rintro e w4 ⟨x, rfl, h1, hb⟩
  have T4 := Lib.hid (T3.out.step hb)
  have B4 := Lib.hid (B3.out.below hb)
  have W4 := Lib.hid (And.intro h1 hb)
  clear h1 hb T3 B3
  go_wp2_with fail
  refine (rn _ _ W4.out.2).mono ?_
  rintro e w5 ⟨y, rfl, h1, hb⟩
  have S5 : Hid (Ao W0 A1 L1 n1 w h D u Q a b x y bs [] [] 0 0 g ⟨ok, ox, oy, ov⟩ w5) := Lib.hid ⟨T4.out.step hb, al_mk (Z1.out.1) Z1.out.2 W1.out W2.out.1 W2.out.2 HB3.out W4.out.1 W4.out.2 h1 hb, B4.out.below hb⟩
  clear h1 hb T4 B4 rn W1 W2 W3 W4 HB3 Z0 Z1
  obtain ⟨q0, q1, q2, q3⟩ := S5.out.bo.cells
  dsimp only at q0 q1 q2 q3
  go_wp2_with fail
  go_ret
  exact ⟨rfl, u, Q, JV.out, S5.out.tt⟩
theorem alone_c {W0 W : World} {A1 L1 w h D : Nat} {n1 : Nat → Nat} {u : Int} {Q : Nat → Nat → Nat → Nd} (H : To W0 A1 L1 n1 w h D u Q W) (hJ : Jv w h u Q) (ok ox oy ov : Int) :
    Calls Try.prog 43 #[.pointer (some ⟨A1, 0, none⟩), .pointer none, .agg #[.int .i64 ok, .int .i64 ox, .int .i64 oy, .int .i64 ov]] W fun e w' => e = .returned (.bool true) ∧ ∃ u' Q', Jv w h u' Q' ∧ To W0 A1 L1 n1 w h D u' Q' w' := by
  by_cases k0 : ok = 0
  · exact alone_0 H hJ ok ox oy ov k0
  by_cases k1 : ok = 1
  · exact alone_1 H hJ ok ox oy ov k1
  by_cases k3 : ok = 3
  · exact alone_3 H hJ ok ox oy ov k3
  exact alone_o H hJ ok ox oy ov k0 k1 k3
theorem alike_c {W0 W : World} {A1 L1 A2 L2 w h D : Nat} {n1 n2 : Nat → Nat} {u : Int} {Q : Nat → Nat → Nat → Nd} (H : Tt W0 A1 L1 n1 A2 L2 n2 w h D u Q u Q W) (hJ : Jv w h u Q) (ok ox oy ov : Int) :
    Calls Try.prog 43 #[.pointer (some ⟨A1, 0, none⟩), .pointer (some ⟨A2, 0, none⟩), .agg #[.int .i64 ok, .int .i64 ox, .int .i64 oy, .int .i64 ov]] W fun e w' => e = .returned (.bool true) ∧ ∃ u' Q', Jv w h u' Q' ∧ Tt W0 A1 L1 n1 A2 L2 n2 w h D u' Q' u' Q' w' := by
  by_cases k0 : ok = 0
  · exact alike_0 H hJ ok ox oy ov k0
  by_cases k1 : ok = 1
  · exact alike_1 H hJ ok ox oy ov k1
  by_cases k3 : ok = 3
  · exact alike_3 H hJ ok ox oy ov k3
  exact alike_o H hJ ok ox oy ov k0 k1 k3
end Go.Proofs.Ytaddendclipkkaa
