/-
  Layer 17: Encode.
  Layer 17: Encode of values that are in order.
-/
import Derived.Test.YtklchodbnjebnaaDoorNP
import Derived.Test.YtklchodbnjebnaaDoorNN
import Derived.Test.YtklchodbnjebnaaDoorNM
set_option maxRecDepth 100000
namespace Go.Proofs.YtklchodbnjebnaaDoor
open Go.RowKit

theorem scnP_le (w h q : Nat) : (scnP w h q).length ≤ 4 * (w * q) := by
  induction q with
  | zero => simp [scnP]
  | succ q ih =>
    have h1 : w * min 4 (h - 4 * q) ≤ w * 4 := Nat.mul_le_mul_left _ (by omega)
    rw [scnP_succ, List.length_append, strP_len, Nat.mul_succ]
    omega
theorem wq_le (w h : Nat) (hw : w ≤ 64) (hwh : w * h ≤ 144) : w * ((h + 3) / 4) ≤ 64 := by
  by_cases h4 : h ≤ 4
  · have : w * ((h + 3) / 4) ≤ w * 1 := Nat.mul_le_mul_left _ (by omega)
    omega
  · have h1 : w * 5 ≤ w * h := Nat.mul_le_mul_left _ (by omega)
    have h2 : w * (4 * ((h + 3) / 4)) ≤ w * (h + 3) := Nat.mul_le_mul_left _ (by omega)
    rw [Nat.mul_add] at h2
    have h3 : w * (4 * ((h + 3) / 4)) = 4 * (w * ((h + 3) / 4)) := by rw [Nat.mul_left_comm]
    omega
theorem pass144 (p : Pp) (k : Int) (y : Bool) (e : Es) (hw : p.w ≤ 64) (hwh : p.w * p.h ≤ 144) : (passS p k y e).2.length ≤ e.2.length + 1000 := by
  have h0 := wq_le p.w p.h hw hwh
  have hs : (scan p.w p.h).length ≤ 256 := by have := scnP_le p.w p.h ((p.h + 3) / 4); unfold scan; omega
  unfold passS
  split
  · have := foldl_len (sigS p) 2 (sigS_len p) (scan p.w p.h) e
    omega
  split
  · have := foldl_len (refS p) 2 (refS_len p) (scan p.w p.h) e
    omega
  · have h1 := clS_len p e ((p.h + 3) / 4)
    have h2 : 12 * p.w * ((p.h + 3) / 4) = 12 * (p.w * ((p.h + 3) / 4)) := Nat.mul_assoc _ _ _
    have h3 := offS_len p (clS p e ((p.h + 3) / 4)) (scan p.w p.h)
    unfold cleanS endS
    split
    · rw [chkS_l]
      simp
      omega
    · omega
theorem sym144 (w h : Nat) (planes o : Int) (m : Mo) (q : St) (k : Nat) (hw : w ≤ 64) (hwh : w * h ≤ 144) : (symP w h planes o m q k).length ≤ 1000 := by
  have := pass144 (ppR w h (k : Int) planes o m) (kndP (k : Int)) m.y (blkP w h planes o m q k, []) hw hwh
  have h2 : (symP w h planes o m q k).length ≤ ([] : List Sy).length + 1000 := this
  simpa using h2
theorem symL_ok (w h : Nat) (planes o : Int) (m : Mo) (q : St) (n : Nat) (hw : w ≤ 64) (hwh : w * h ≤ 144) : SyOk m (symL w h planes o m q n) := by
  intro k hk
  rw [symL_at]
  refine ⟨sym144 w h planes o m q k hw hwh, fun y hy => ?_⟩
  obtain ⟨h1, c, h2, h3, h4⟩ := gd_sym w h planes o m q k y hy
  refine ⟨h1, fun hr => ?_⟩
  have : y.1 = c := by rw [h4]; unfold cxP ppR; rw [show (⟨w, h, (planes - 1 - plnP (k : Int)).toNat, o, m.c, rawM (k : Int) m.b⟩ : Pp).raw = rawM (k : Int) m.b from rfl, hr]; rfl
  omega
/-- The coded block of values. -/
def encS (w h : Nat) (l : List Int) (o : Int) (m : Mo) : List (List Sy) := symL w h (plnN l) o m (setV w h l l.length) (3 * plnN l - 2)
def encC (w h : Nat) (l : List Int) (o : Int) (m : Mo) : Cd := cdA m (encS w h l o m)
/-- What Encode gives: an error and nothing, or the coded block. -/
def EnG (W : World) (l : List Int) (w h o : Int) (m : Mo) (e : Ending) (w' : World) : Prop :=
  Below W.heap.size W w' ∧ ((∃ c, c = symE l w h o ∧ c ≠ 0 ∧ e = .returned (.tuple #[zeroC, .int .i64 c])) ∨
    (symE l w h o = 0 ∧ ((65535 < (encC w.toNat h.toNat l o m).D.length ∧ e = .returned (.tuple #[zeroC, .int .i64 5])) ∨
      ((encC w.toNat h.toNat l o m).D.length ≤ 65535 ∧ ∃ v, e = .returned (.tuple #[v, .int .i64 0]) ∧ CvAt w' v (plnN l) (encC w.toNat h.toNat l o m).E (encC w.toNat h.toNat l o m).D ∧ CvNew W.heap.size v))))
theorem encS_len (w h : Nat) (l : List Int) (o : Int) (m : Mo) : (encS w h l o m).length = 3 * plnN l - 2 := symL_len _ _ _ _ _ _ _
/-- Behind an error: nothing. -/
theorem encode_e (s : Option Addr) (l : List Int) (cp : Nat) (w h o : Int) (m : Mo) (W : World) (c : Int) (hc : c ≠ 0) (ks : ∀ W1 : World, Below W.heap.size W W1 → Calls Tryd.prog 23 #[.slice s l.length cp, .int .i64 w, .int .i64 h, .int .i64 o, m.val] W1 (SGv W1 c [])) :
    Calls Tryd.prog 15 #[.slice s l.length cp, .int .i64 w, .int .i64 h, .int .i64 o, m.val] W fun e w' => e = .returned (.tuple #[zeroC, .int .i64 c]) ∧ Below W.heap.size W w' := by
  obtain ⟨mb, mr, ms, mc, my⟩ := m
  unfold Mo.val at *
  dsimp only at *
  obtain ⟨WA, hWA⟩ : ∃ x, x = (W.alloc (.cells #[.bool mb, .bool mr, .bool ms, .bool mc, .bool my] 27)).alloc (.cells #[.int .i64 0, .slice none 0 0, .slice none 0 0] 25) := ⟨_, rfl⟩
  have hB1 : Below W.heap.size W WA := by rw [hWA]; exact below_alloc (below_alloc (Below.refl _ W) _) _
  have RB0 : Blk WA (W.heap.size + 1) 25 #[.int .i64 0, .slice none 0 0, .slice none 0 0] := by
    have := Blk.new (W.alloc (.cells #[.bool mb, .bool mr, .bool ms, .bool mc, .bool my] 27)) 25 #[.int .i64 0, .slice none 0 0, .slice none 0 0]
    rw [hWA]; simpa using this
  have k := ks WA hB1
  rw [hWA] at k
  have HB1 := Lib.hid hB1
  have HRB := Lib.hid RB0
  have HWA := Lib.hid hWA
  have hc0 : (c == 0) = false := by simpa using hc
  clear hB1 RB0 hWA ks
  go_enter Tryd.func15, Tryd.ntmps15
  go_wp2_with (first | (go_at_call 23; (with_reducible refine k.mono ?_); rintro e w1 ⟨v, rfl, hS, hb⟩; obtain ⟨v1, v2, rfl⟩ := own_slice hS.ex.choose_spec.2.1; have B1 := Lib.hid hb; clear hS hb; have RB1 := Lib.hid (HRB.out.below (by rw [HWA.out]; exact B1.out)); have b0 := RB1.out.cell 0; have b1 := RB1.out.cell 1; have b2 := RB1.out.cell 2; have f0 := RB1.out.free 0; have f1 := RB1.out.free 1; have f2 := RB1.out.free 2))
  (try simp only [Exit.inBlock, Exit.then])
  refine bodyPost_ret (results_coded rfl _ rfl rfl (RB1.out.set3 _ _ _)) rfl ?_
  refine ⟨rfl, ?_⟩
  have h1 := below_call HB1.out (by rw [HWA.out]; exact B1.out)
  exact ((h1.setCell (p := ⟨W.heap.size + 1, 0, none⟩) (by show W.heap.size ≤ W.heap.size + 1; omega) _).setCell (p := ⟨W.heap.size + 1, 1, none⟩) (by show W.heap.size ≤ W.heap.size + 1; omega) _).setCell (p := ⟨W.heap.size + 1, 2, none⟩) (by show W.heap.size ≤ W.heap.size + 1; omega) _
end Go.Proofs.YtklchodbnjebnaaDoor
set_option maxRecDepth 100000
namespace Go.Proofs.YtklchodbnjebnaaDoor
open Go.RowKit

set_option maxHeartbeats 4000000 in
theorem encode_y (s : Option Addr) (l : List Int) (cp : Nat) (w h : Nat) (o : Int) (m : Mo) (W : World) (hf : fits (w : Int) (h : Int)) (hl : l.length = w * h) (h144 : l.length ≤ 144) (ho : 0 ≤ o ∧ o ≤ 3) (hH : HoldsI W s l) (hT : Cx.Tabs W) (hr : ∀ v ∈ l, i64R v) (hok : ∀ v ∈ l, okV v) :
    Calls Tryd.prog 15 #[.slice s l.length cp, .int .i64 (w : Int), .int .i64 (h : Int), .int .i64 o, m.val] W (CdG W (plnN l) (encC w h l o m).E (encC w h l o m).D) := by
  have hpl : plnN l ≤ 60 := bit_le60 (mxN_lt l _ (by decide) fun v hv => by have := hok v hv; unfold okV at this; omega)
  obtain ⟨A, hA⟩ : ∃ A, A = encS w h l o m := ⟨_, rfl⟩
  have hAl : A.length ≤ 178 := by rw [hA, encS_len]; omega
  have hsy : SyOk m A := by rw [hA]; exact symL_ok _ _ _ _ _ _ _ (by unfold fits at hf; omega) (by omega)
  have ks := fun (W1 : World) (hb : Below W.heap.size W W1) => symbols_c3 s l cp w h o m W1 hf hl ho (hH.below hb (Nat.le_refl _)) (hT.below hb) hr 0 A (fun ⟨v, hv, hn⟩ => absurd (hok v hv) hn) (fun _ => ⟨rfl, hA⟩)
  have kp := fun (W1 : World) (hb : Below W.heap.size W W1) => planes_c s l cp W1 (hH.below hb (Nat.le_refl _)) hr (by omega)
  have kc := fun (sA : Option Addr) (mA : Nat) (W1 : World) (hZ : HoldsZ W1 sA A) (hc : A.length ≤ mA) => bcode_c A sA mA (plnN l : Int) m W1 hZ hc hAl hsy
  unfold encC
  rw [← hA]
  obtain ⟨c, hcd⟩ : ∃ c, c = cdA m A := ⟨_, rfl⟩
  rw [← hcd] at kc ⊢
  obtain ⟨pl, hple⟩ : ∃ p, p = plnN l := ⟨_, rfl⟩
  rw [← hple] at kc kp ⊢
  obtain ⟨mb, mr, ms, mc, my⟩ := m
  unfold Mo.val at *
  dsimp only at *
  obtain ⟨WA, hWA⟩ : ∃ x, x = (W.alloc (.cells #[.bool mb, .bool mr, .bool ms, .bool mc, .bool my] 27)).alloc (.cells #[.int .i64 0, .slice none 0 0, .slice none 0 0] 25) := ⟨_, rfl⟩
  have hB1 : Below W.heap.size W WA := by rw [hWA]; exact below_alloc (below_alloc (Below.refl _ W) _) _
  have RB0 : Blk WA (W.heap.size + 1) 25 #[.int .i64 0, .slice none 0 0, .slice none 0 0] := by
    have := Blk.new (W.alloc (.cells #[.bool mb, .bool mr, .bool ms, .bool mc, .bool my] 27)) 25 #[.int .i64 0, .slice none 0 0, .slice none 0 0]
    rw [hWA]; simpa using this
  have MB0 : Blk WA W.heap.size 27 #[.bool mb, .bool mr, .bool ms, .bool mc, .bool my] := by
    rw [hWA]; exact (Blk.new W _ _).alloc _
  have k := ks WA hB1
  rw [hWA] at k
  have HB1 := Lib.hid hB1
  have HRB := Lib.hid RB0
  have HMB := Lib.hid MB0
  have HWA := Lib.hid hWA
  have KP := Lib.hid kp
  have KC := Lib.hid kc
  clear hB1 RB0 hWA ks kp kc hpl hsy hok hr hT hH ho h144 hl hf hAl hA hple hcd MB0
  generalize l.length = N at *
  go_enter Tryd.func15, Tryd.ntmps15
  go_wp2_with (first | (go_at_call 23; (with_reducible refine k.mono ?_); rintro e w1 ⟨v, rfl, hS, hb⟩; obtain ⟨s1, mz1, rfl, hz1, hm1⟩ := ss_cap hS; have Z1 := Lib.hid hz1; have M1 := Lib.hid hm1; have B1 := Lib.hid (show Below WA.heap.size WA w1 by rw [HWA.out]; exact hb); clear hS hb hz1 hm1; have RB1 := Lib.hid (HRB.out.below B1.out); have MB1 := Lib.hid (HMB.out.below B1.out); have W1B := Lib.hid (below_call HB1.out B1.out)))
  obtain ⟨m0, m1, m2, m3, m4⟩ := md MB1.out
  have b0 := RB1.out.cell 0
  have b1 := RB1.out.cell 1
  have b2 := RB1.out.cell 2
  have f0 := RB1.out.free 0
  have f1 := RB1.out.free 1
  have f2 := RB1.out.free 2
  have kp := KP.out w1.drew (below_call W1B.out (Below.refl _ _).drew)
  have kc := KC.out s1 mz1 w1.drew (Z1.out.call (Below.refl _ _).drew) M1.out
  go_region_law (first | (go_simp; go_at_call 25; (with_reducible refine kp.mono ?_); rintro e wn ⟨rfl, rfl⟩) | (go_simp; go_at_call 24; (with_reducible refine kc.mono ?_); rintro e w2 z; obtain ⟨x0, se, ne, me, sd, nd, md2, cc, rfl, hb2, hv⟩ := cdg_open z; have B2 := Lib.hid hb2; have V2 := Lib.hid hv; have RB2 := Lib.hid ((RB1.out.below (Below.refl w1.heap.size w1).drew).below hb2); have b0 := RB2.out.cell 0; have b1 := RB2.out.cell 1; have b2 := RB2.out.cell 2; have f0 := RB2.out.free 0; have f1 := RB2.out.free 1; have f2 := RB2.out.free 2; clear z hb2 hv) | fail)
  all_goals
    go_wp2_with fail
    (try simp only [Exit.inBlock, Exit.then])
    refine bodyPost_ret (results_coded rfl _ rfl rfl (RB2.out.set3 _ _ _)) rfl ?_
    have hlt : W.heap.size + 1 < w1.heap.size := RB1.out.lt
    have hbb := below_call (below_call W1B.out (Below.refl _ _).drew) B2.out
    refine ⟨((hbb.setCell (p := ⟨W.heap.size + 1, 0, none⟩) (by show W.heap.size ≤ W.heap.size + 1; omega) _).setCell (p := ⟨W.heap.size + 1, 1, none⟩) (by show W.heap.size ≤ W.heap.size + 1; omega) _).setCell (p := ⟨W.heap.size + 1, 2, none⟩) (by show W.heap.size ≤ W.heap.size + 1; omega) _, ?_⟩
    rcases V2.out (((w2.setCell ⟨W.heap.size + 1, 0, none⟩ (.int .i64 x0)).setCell ⟨W.heap.size + 1, 1, none⟩ (.slice se ne me)).setCell ⟨W.heap.size + 1, 2, none⟩ (.slice sd nd md2)) (fun k hk => by
      have hk2 : w1.heap.size ≤ k := hk
      have hne : k ≠ W.heap.size + 1 := by omega
      rw [Below.heap_setCell _ _ _ k hne, Below.heap_setCell _ _ _ k hne, Below.heap_setCell _ _ _ k hne]) with ⟨h1, h2, h3⟩ | ⟨h1, h2, h3, h4⟩
    · exact .inl ⟨h1, by show Ending.returned (.tuple #[.agg #[.int .i64 x0, .slice se ne me, .slice sd nd md2], .int .i64 cc]) = _; rw [h2, h3]⟩
    · refine .inr ⟨h1, .agg #[.int .i64 x0, .slice se ne me, .slice sd nd md2], by show Ending.returned (.tuple #[.agg #[.int .i64 x0, .slice se ne me, .slice sd nd md2], .int .i64 cc]) = _; rw [h2], h3, h4.mono ?_⟩
      have : w1.drew.heap.size = w1.heap.size := rfl
      have := W1B.out.size
      omega
end Go.Proofs.YtklchodbnjebnaaDoor
