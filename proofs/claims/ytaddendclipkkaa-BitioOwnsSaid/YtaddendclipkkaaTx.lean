/-
  Layer 10: a tree and a writer side by side; the chapter's examples.
-/
import Derived.Test.YtaddendclipkkaaTg
import Derived.Test.YtaddendclipkkaaTh
import Derived.Test.YtaddendclipkkaaVb
set_option maxRecDepth 100000
namespace Go.Proofs.Ytaddendclipkkaa
open Go.RowKit

theorem Tr.lower {W : World} {B B' A L w h D : Nat} {nd : Nat → Nat} {u : Int} {Q : Nat → Nat → Nat → Nd} (H : Tr W B A L nd w h D u Q) (hB : B' ≤ B) : Tr W B' A L nd w h D u Q :=
  ⟨H.w1, H.h1, H.sz, H.ws, H.hs, H.d1, H.d2, H.top, H.us, Nat.le_trans hB H.geA, Nat.le_trans hB H.geL, fun k hk => Nat.le_trans hB (H.geN k hk), H.inj, H.obj, H.lvs, H.nds, H.qb⟩
theorem Wr.low {w : World} {B B' a : Nat} {l : List Int} (h : Wr w B a l) (hB : B' ≤ B) : Wr w B' a l := by
  obtain ⟨sv, h⟩ := h
  refine ⟨sv, ⟨Nat.le_trans hB h.ge, h.blk, h.own.1, ?_⟩⟩
  rcases h.own.2 with h1 | ⟨g, cap, cur, e1, e2, e3⟩
  · exact .inl h1
  · exact .inr ⟨g, cap, cur, e1, Nat.le_trans hB e2, e3⟩
/-- A tree and a writer, both made since a world. -/
structure Tw (W0 : World) (A L a : Nat) (nd : Nat → Nat) (w h D : Nat) (u : Int) (Q : Nat → Nat → Nat → Nd) (s : List Int) (W : World) : Prop where
  tr : Tr W W0.heap.size A L nd w h D u Q
  wr : Wr W W0.heap.size a s
  bits : Bi.bits s
  below : Below W0.heap.size W0 W
section
variable {W0 W W1 : World} {A L a w h D : Nat} {nd : Nat → Nat} {u : Int} {Q : Nat → Nat → Nat → Nd} {s : List Int}
theorem Tw.step (H : Tw W0 A L a nd w h D u Q s W) (hb : Below W.heap.size W W1) : Tw W0 A L a nd w h D u Q s W1 := ⟨H.tr.below hb, H.wr.below hb, H.bits, below_call H.below hb⟩
theorem Tw.set {u' : Int} {Q' : Nat → Nat → Nat → Nd} (H : Tw W0 A L a nd w h D u Q s W) (hT : Tr W1 W0.heap.size A L nd w h D u' Q') (hk : Kf (Tf A L nd D) W W1) : Tw W0 A L a nd w h D u' Q' s W1 :=
  ⟨hT, H.wr.keep fun k hf => hk.block k (H.wr.foot k hf).2 (not_tf H.wr H.tr k hf), H.bits, H.below.trans (hk.below (fun k hk => (H.tr.foot k hk).1) H.below.size)⟩
theorem Tw.enc {s' : List Int} {u' : Int} {Q' : Nat → Nat → Nat → Nd} (H : Tw W0 A L a nd w h D u Q s W) (hE : En W W0.heap.size W0.heap.size A L a nd w h D u Q s s' u' Q' W1) : Tw W0 A L a nd w h D u' Q' s' W1 ∧ s'.length ≤ s.length + 1200000 :=
  ⟨⟨hE.tr, hE.wr, hE.bits, H.below.trans (hE.kf.below (fun k hk => hk.elim (fun hf => (H.wr.foot k hf).1) (fun ht => (H.tr.foot k ht).1)) H.below.size)⟩, hE.len⟩
end
theorem set_st {W : World} {B A L w h D : Nat} {nd : Nat → Nat} {u : Int} {Q : Nat → Nat → Nat → Nd} (H : Tr W B A L nd w h D u Q) (hu : u ≠ 0) (x y v : Int) :
    Calls Try.prog 33 #[.pointer (some ⟨A, 0, none⟩), .int .i64 x, .int .i64 y, .int .i64 v] W fun e w' => e = .returned (.int .i64 6) ∧ W = w' := by
  have tm := tmade_y A W H.cells.1
  obtain ⟨c0, ⟨m, c1⟩, c2⟩ := H.cells
  have hu1 : (u != 0) = true := by simpa using hu
  clear H hu
  go_enter Try.func33, Try.ntmps33
  go_wp2_with (first | (go_at_call 59; (with_reducible refine tm.mono ?_); rintro e wn ⟨rfl, rfl⟩))
  go_ret
  exact ⟨rfl, rfl⟩
def xf0 : Nat → Nat → Int := fun _ _ => 0
def xl0 : Nat → Nat → Nat → Int := fun _ _ _ => 0
def xb0 : Nat → Nat → Nat → Bool := fun _ _ _ => false
def xf1 : Nat → Nat → Int := stF 0 2 1 xf0 0 0 1
def xf2 : Nat → Nat → Int := stF 0 2 1 xf1 1 0 2
def xQ2 : Nat → Nat → Nat → Nd := mkQ 2 1 xf2 xl0 xb0
def xs1 : List Int := enS xQ2 2 1 2 0 [] 0 0 2
def xQ3 : Nat → Nat → Nat → Nd := enQ xQ2 2 1 2 0 [] 0 0 2
def xs2 : List Int := enS xQ3 2 1 2 1 xs1 1 0 2
def xQ4 : Nat → Nat → Nat → Nd := enQ xQ3 2 1 2 1 xs1 1 0 2
theorem xdep : dep 2 1 = 2 := by decide
theorem xe1 : stE 0 2 1 0 0 1 = 0 := by decide
theorem xe2 : stE 0 2 1 1 0 2 = 0 := by decide
theorem xe3 : enE 2 1 0 0 0 2 = 0 ∧ enU 2 1 0 0 0 2 = 1 := by decide
theorem xe4 : enE 2 1 1 1 0 2 = 0 ∧ enU 2 1 1 1 0 2 = 1 := by decide
theorem xs1_is : xs1 = [0, 1, 1] := by decide +kernel
theorem xs2_is : xs2 = [0, 1, 1, 0] := by decide +kernel
theorem xv1 : vlV 2 1 xQ4 0 0 = 1 ∧ vlB 2 1 xQ4 0 0 = true ∧ vlB 2 1 xQ4 1 0 = false := by decide +kernel
theorem xe5 : stE 1 2 1 0 0 1 = 6 := by decide
theorem xby : Bi.enc [0, 1, 1, 0] = [96] := by decide +kernel
theorem xn1 : okN 2 1 := by decide
theorem xn2 : ¬ okN 257 256 ∧ chE 257 256 = 5 := by decide
theorem xn3 : okN 5 3 ∧ dep 5 3 = 4 := by decide
theorem holdsB_nw (w : World) (l : List Int) : HoldsB (w.alloc (.cells (l.map (Value.int .u8)).toArray 5)) (some ⟨w.heap.size, 0, none⟩) l := by
  refine .inr ⟨w.heap.size, 0, rfl, fun k hk => ?_⟩
  have hb := Blk.new w 5 (l.map (Value.int .u8)).toArray
  rw [hb.cell]
  simp [hk]
set_option maxHeartbeats 8000000 in
theorem ex10_c (W : World) : Calls Try.prog 31 #[] W fun e w' => e = .returned (.bool true) ∧ Below W.heap.size W w' := by
  have n1 := tnew_yes 2 1 xn1 W
  have n2 := tnew_no 257 256 xn2.1
  have n3 := depth_c 5 3
  rw [if_pos xn3.1] at n3
  rw [xn2.2] at n2
  have e3 : (((dep (Int.toNat 5) (Int.toNat 3) : Nat) : Int)) = 4 := by decide
  rw [e3] at n3
  clear e3
  go_enter Try.func31, Try.ntmps31
  go_wp2_with fail
  refine n1.mono ?_
  rintro e w1 ⟨rfl, hT, hb⟩
  have T1 := Lib.hid hT
  have B1 := Lib.hid hb
  clear hT hb n1
  generalize W.heap.size + 1 = A at *
  generalize (fun i => W.heap.size + 2 + i) = nd at *
  obtain ⟨L, hL⟩ : ∃ L, L = W.heap.size := ⟨_, rfl⟩
  have HL := Lib.hid hL
  clear hL
  go_wp2_with fail
  refine (new_c _).mono ?_
  rintro e w2 ⟨a, rfl, hW, hb⟩
  have S2 : Hid (Tw W A L a nd 2 1 2 0 (mkQ 2 1 xf0 xl0 xb0) [] w2) := by
    have ht := T1.out.below hb
    rw [xdep] at ht
    rw [HL.out]
    exact ⟨ht, hW.low B1.out.size, Bi.bits_nil, below_call B1.out hb⟩
  have c1 := set_c S2.out.tr 0 0 1
  rw [xe1] at c1
  clear hW hb T1 B1
  go_wp2_with fail
  refine c1.mono ?_
  rintro e w3 ⟨rfl, hT, hk⟩
  have S3 : Hid (Tw W A L a nd 2 1 2 0 (mkQ 2 1 xf1 xl0 xb0) [] w3) := S2.out.set hT hk
  have c2 := set_c S3.out.tr 1 0 2
  rw [xe2] at c2
  clear hT hk c1 S2
  go_wp2_with fail
  refine c2.mono ?_
  rintro e w4 ⟨rfl, hT, hk⟩
  have S4 : Hid (Tw W A L a nd 2 1 2 0 xQ2 [] w4) := S3.out.set hT hk
  have c3 := encode_c S4.out.tr S4.out.wr S4.out.bits (by simp) 0 0 2
  rw [xe3.1, xe3.2] at c3
  clear hT hk c2 S3
  go_wp2_with fail
  refine c3.mono ?_
  rintro e w5 ⟨rfl, hE⟩
  have S5 : Hid (Tw W A L a nd 2 1 2 1 xQ3 xs1 w5) := (S4.out.enc hE).1
  have c4 := encode_c S5.out.tr S5.out.wr S5.out.bits (by rw [xs1_is]; simp) 1 0 2
  rw [xe4.1, xe4.2] at c4
  clear hE c3 S4
  go_wp2_with fail
  refine c4.mono ?_
  rintro e w6 ⟨rfl, hE⟩
  have S6 : Hid (Tw W A L a nd 2 1 2 1 xQ4 xs2 w6) := (S5.out.enc hE).1
  have c5 := len_c _ _ _ _ S6.out.wr
  rw [xs2_is] at c5
  clear hE c4 S5
  go_wp2_with (first | (go_at_call 25; (refine c5.mono ?_); rintro e wn ⟨rfl, rfl⟩) | (go_at_call 27; (with_reducible refine (n2 _).mono ?_); rintro e wn ⟨rfl, rfl⟩))
  have c6 := value_c S6.out.tr 0 0
  rw [xv1.1, xv1.2.1] at c6
  refine c6.mono ?_
  rintro e w7 ⟨rfl, hb⟩
  have S7 := Lib.hid (S6.out.step hb)
  have c7 := value_c S7.out.tr 1 0
  rw [xv1.2.2] at c7
  generalize vlV 2 1 xQ4 1 0 = vv at *
  clear hb c5 c6 S6
  go_wp2_with fail
  refine c7.mono ?_
  rintro e w8 ⟨rfl, hb⟩
  have S8 := Lib.hid (S7.out.step hb)
  have c8 := bytes_c _ _ _ _ S8.out.wr (by rw [xs2_is]; simp)
  rw [xs2_is] at c8
  clear hb c7 S7
  go_wp2_with fail
  refine c8.mono ?_
  rintro e w9 ⟨g, pad, rfl, hr, _, hb⟩
  rw [xby] at hr ⊢
  have S9 := Lib.hid (S8.out.step hb)
  have R9 := Lib.hid hr.holds
  have S10 := Lib.hid (S9.out.step (below_alloc (Below.refl _ w9) (.cells #[.int .u8 96] 5)))
  have hh : HoldsB (w9.alloc (.cells #[.int .u8 96] 5)) (some ⟨w9.heap.size, 0, none⟩) [96] := holdsB_nw w9 [96]
  have sm := same_t (w9.alloc (.cells #[.int .u8 96] 5)) [96] (some ⟨g, 0, none⟩) (some ⟨w9.heap.size, 0, none⟩) 1 1 1 rfl (R9.out.call (below_alloc (Below.refl _ w9) (.cells #[.int .u8 96] 5))) hh
  have c9 := set_st S10.out.tr (by decide) 0 0 1
  simp only [List.length_cons, List.length_nil, Nat.zero_add]
  clear hr hb c8 S8 hh
  go_wp2_with (first | (go_at_call 23; (with_reducible refine sm.mono ?_); rintro e wn ⟨rfl, rfl⟩) | (go_at_call 29; (with_reducible refine (n3 _).mono ?_); rintro e wn ⟨rfl, rfl⟩))
  refine c9.mono ?_
  rintro e w11 ⟨rfl, rfl⟩
  clear c9 sm
  go_wp2_with fail
  go_ret
  exact ⟨rfl, S10.out.below⟩
end Go.Proofs.Ytaddendclipkkaa
