/-
  The reference's level shift.
-/
import Derived.Test.YtadkcgpkbcgeoaaCoU
import Derived.Test.YtadkcgpkbcgeoaaEx02
set_option maxRecDepth 100000
namespace Go.Proofs.Ytadkcgpkbcgeoaa
open Go.RowKit

theorem add_take {d : Int} {l : List Int} {k : Nat} (hk : k < l.length) : (addL d l).take k ++ [l[k] + d] = (addL d l).take (k + 1) := by
  rw [List.take_succ_eq_append_getElem (by rw [addL_len]; exact hk)]
  simp [addL]
theorem add_end (d : Int) (l : List Int) : (addL d l).take l.length = addL d l := by
  have := addL_len d l
  rw [← this, List.take_length]
structure Rl (w w1 : World) (q : Pl.R) (vp : Value) (n : Int) (sg : Bool) (x y : Int) (v : Value) (out : List Int) (W : World) : Prop where
  p : QBox W w.heap.size q vp
  k : CBox W (w.heap.size + 1) n sg x y
  z : QBox W (w.heap.size + 2) ⟨0, 0, 0, 0⟩ (.slice none 0 0)
  G : Gr w1 w1.heap.size q v out W
  below : Below w.heap.size w W
section
variable {w w1 W W1 : World} {q : Pl.R} {vp v : Value} {n x y : Int} {sg : Bool} {out : List Int}
theorem Rl.step (h : Rl w w1 q vp n sg x y v out W) (hb : Below W.heap.size W W1) : Rl w w1 q vp n sg x y v out W1 :=
  ⟨h.p.below hb, h.k.below hb, h.z.below hb, h.G.step hb, below_call h.below hb⟩
theorem CBox.belowAt {B N : Nat} (h : CBox W B n sg x y) (hb : Below N W W1) (hN : B < N) : CBox W1 B n sg x y :=
  ⟨(hb.cell (p := ⟨B, 0, none⟩) hN).trans h.c0, (hb.cell (p := ⟨B, 1, none⟩) hN).trans h.c1, (hb.cell (p := ⟨B, 2, none⟩) hN).trans h.c2, (hb.cell (p := ⟨B, 3, none⟩) hN).trans h.c3, Nat.lt_of_lt_of_le h.lt hb.size⟩
theorem Rl.push {W2 : World} {v' : Value} {u : Int} (h : Rl w w1 q vp n sg x y v out W) (hz : w.heap.size + 2 < w1.heap.size) (X : Obj) (hg : (W.alloc X).grownBy W2 v.ownBlock) (hown : W2.ownsRow (w1.heap.size + 1) 3 1 v' (out.length + 1) (out.map (Value.int .i64) ++ [.int .i64 u])) :
    Rl w w1 q vp n sg x y v' (out ++ [u]) (W2.setCell ⟨w1.heap.size, 4, none⟩ v') := by
  have hG := h.G.push X hg hown
  have hlt := h.G.o.lt
  have hb0 : Below (w1.heap.size + 1) W W2 := ((Below.refl _ _).alloc (by omega) X).grown hg (by simp; omega) (fun k hk => (h.G.own.lt k hk).1)
  have hb1 : Below w1.heap.size W W2 := hb0.mono (by omega)
  have hb : Below w1.heap.size W (W2.setCell ⟨w1.heap.size, 4, none⟩ v') := hb1.setCell (Nat.le_refl _) _
  exact ⟨h.p.belowAt hb (by omega), h.k.belowAt hb (by omega), h.z.belowAt hb (by omega), hG, h.below.trans (hb.mono (by omega))⟩
end
set_option maxRecDepth 100000 in
set_option maxHeartbeats 4000000 in
theorem shr_no1 (a b c d n x y : Int) (sg : Bool) (s : Option Addr) (m : Nat) (l : List Int) (w : World) (hH : HoldsI w s l) (hp : pvB a b c d l.length = false) : Calls Try.prog 36 #[.agg #[.int .i64 a, .int .i64 b, .int .i64 c, .int .i64 d, .slice s l.length m], .agg #[.int .i64 n, .bool sg, .int .i64 x, .int .i64 y]] w (GivesPlane ⟨0, 0, 0, 0⟩ [] 1 w) := by
  have p := ((QBox.fresh w a b c d s l.length m 40).alloc (.cells #[.int .i64 n, .bool sg, .int .i64 x, .int .i64 y] 42)).alloc (.cells #[.int .i64 0, .int .i64 0, .int .i64 0, .int .i64 0, .slice none 0 0] 40)
  have k := (CBox.freshAt (w.alloc (.cells #[.int .i64 a, .int .i64 b, .int .i64 c, .int .i64 d, .slice s l.length m] 40)) (w.heap.size + 1) (by simp) n sg x y 42).alloc (.cells #[.int .i64 0, .int .i64 0, .int .i64 0, .int .i64 0, .slice none 0 0] 40)
  have z := QBox.freshAt ((w.alloc (.cells #[.int .i64 a, .int .i64 b, .int .i64 c, .int .i64 d, .slice s l.length m] 40)).alloc (.cells #[.int .i64 n, .bool sg, .int .i64 x, .int .i64 y] 42)) (w.heap.size + 2) (by simp) 0 0 0 0 none 0 0 40
  have B := below_alloc (below_alloc (below_alloc (Below.refl _ w) (.cells #[.int .i64 a, .int .i64 b, .int .i64 c, .int .i64 d, .slice s l.length m] 40)) (.cells #[.int .i64 n, .bool sg, .int .i64 x, .int .i64 y] 42)) (.cells #[.int .i64 0, .int .i64 0, .int .i64 0, .int .i64 0, .slice none 0 0] 40)
  have lp := ((hH.alloc (.cells #[.int .i64 a, .int .i64 b, .int .i64 c, .int .i64 d, .slice s l.length m] 40)).alloc (.cells #[.int .i64 n, .bool sg, .int .i64 x, .int .i64 y] 42)).alloc (.cells #[.int .i64 0, .int .i64 0, .int .i64 0, .int .i64 0, .slice none 0 0] 40)
  go_enter Try.func36, Try.ntmps36
  obtain ⟨p0, p1, p2, p3, p4⟩ := p.open
  go_wp2_with fail
  clear p0 p1 p2 p3 p4
  refine (pv_r _ _ _ _ _ _ _ _).mono ?_
  rintro e w1 ⟨rfl, hb⟩
  replace p := p.below hb
  replace k := k.below hb
  replace z := z.below hb
  replace B := below_call B hb
  replace lp := lp.call hb
  clear hb
  obtain ⟨z0, z1, z2, z3, z4⟩ := z.open
  have gz := z.free
  go_wp2_with fail
  refine bodyPost_ret (v := .tuple #[.agg #[.int .i64 0, .int .i64 0, .int .i64 0, .int .i64 0, .slice none 0 0], .int .i64 1]) ?_ rfl ?_
  · simp [results, Try.results36, go_sem, z0, z1, z2, z3, z4]
  · exact ⟨none, 0, rfl, .inl rfl, below5 B (by omega) _ _ _ _ _, Nat.le_refl _⟩
set_option maxRecDepth 100000 in
set_option maxHeartbeats 4000000 in
theorem shr_no2 (a b c d n x y : Int) (sg : Bool) (s : Option Addr) (m : Nat) (l : List Int) (w : World) (hH : HoldsI w s l) (hp : pvB a b c d l.length = true) (hd : Co.dB n = false) : Calls Try.prog 36 #[.agg #[.int .i64 a, .int .i64 b, .int .i64 c, .int .i64 d, .slice s l.length m], .agg #[.int .i64 n, .bool sg, .int .i64 x, .int .i64 y]] w (GivesPlane ⟨0, 0, 0, 0⟩ [] 12 w) := by
  have n1 : n < 1 ∨ 16 < n := by
    rcases Decidable.em (n < 1 ∨ 16 < n) with q | q
    · exact q
    · rw [Co.d_iff.2 ⟨by omega, by omega⟩] at hd; exact absurd hd (by decide)
  clear hd
  by_cases n2 : n < 1
  · clear n1
    have p := ((QBox.fresh w a b c d s l.length m 40).alloc (.cells #[.int .i64 n, .bool sg, .int .i64 x, .int .i64 y] 42)).alloc (.cells #[.int .i64 0, .int .i64 0, .int .i64 0, .int .i64 0, .slice none 0 0] 40)
    have k := (CBox.freshAt (w.alloc (.cells #[.int .i64 a, .int .i64 b, .int .i64 c, .int .i64 d, .slice s l.length m] 40)) (w.heap.size + 1) (by simp) n sg x y 42).alloc (.cells #[.int .i64 0, .int .i64 0, .int .i64 0, .int .i64 0, .slice none 0 0] 40)
    have z := QBox.freshAt ((w.alloc (.cells #[.int .i64 a, .int .i64 b, .int .i64 c, .int .i64 d, .slice s l.length m] 40)).alloc (.cells #[.int .i64 n, .bool sg, .int .i64 x, .int .i64 y] 42)) (w.heap.size + 2) (by simp) 0 0 0 0 none 0 0 40
    have B := below_alloc (below_alloc (below_alloc (Below.refl _ w) (.cells #[.int .i64 a, .int .i64 b, .int .i64 c, .int .i64 d, .slice s l.length m] 40)) (.cells #[.int .i64 n, .bool sg, .int .i64 x, .int .i64 y] 42)) (.cells #[.int .i64 0, .int .i64 0, .int .i64 0, .int .i64 0, .slice none 0 0] 40)
    have lp := ((hH.alloc (.cells #[.int .i64 a, .int .i64 b, .int .i64 c, .int .i64 d, .slice s l.length m] 40)).alloc (.cells #[.int .i64 n, .bool sg, .int .i64 x, .int .i64 y] 42)).alloc (.cells #[.int .i64 0, .int .i64 0, .int .i64 0, .int .i64 0, .slice none 0 0] 40)
    go_enter Try.func36, Try.ntmps36
    obtain ⟨p0, p1, p2, p3, p4⟩ := p.open
    go_wp2_with fail
    clear p0 p1 p2 p3 p4
    refine (pv_r _ _ _ _ _ _ _ _).mono ?_
    rintro e w1 ⟨rfl, hb⟩
    replace p := p.below hb
    replace k := k.below hb
    replace z := z.below hb
    replace B := below_call B hb
    replace lp := lp.call hb
    clear hb
    obtain ⟨k0, k1, k2, k3⟩ := k.open
    obtain ⟨z0, z1, z2, z3, z4⟩ := z.open
    have gz := z.free
    go_wp2_with fail
    refine bodyPost_ret (v := .tuple #[.agg #[.int .i64 0, .int .i64 0, .int .i64 0, .int .i64 0, .slice none 0 0], .int .i64 12]) ?_ rfl ?_
    · simp [results, Try.results36, go_sem, z0, z1, z2, z3, z4]
    · exact ⟨none, 0, rfl, .inl rfl, below5 B (by omega) _ _ _ _ _, Nat.le_refl _⟩
  · have n3 : 16 < n := by omega
    clear n1
    have p := ((QBox.fresh w a b c d s l.length m 40).alloc (.cells #[.int .i64 n, .bool sg, .int .i64 x, .int .i64 y] 42)).alloc (.cells #[.int .i64 0, .int .i64 0, .int .i64 0, .int .i64 0, .slice none 0 0] 40)
    have k := (CBox.freshAt (w.alloc (.cells #[.int .i64 a, .int .i64 b, .int .i64 c, .int .i64 d, .slice s l.length m] 40)) (w.heap.size + 1) (by simp) n sg x y 42).alloc (.cells #[.int .i64 0, .int .i64 0, .int .i64 0, .int .i64 0, .slice none 0 0] 40)
    have z := QBox.freshAt ((w.alloc (.cells #[.int .i64 a, .int .i64 b, .int .i64 c, .int .i64 d, .slice s l.length m] 40)).alloc (.cells #[.int .i64 n, .bool sg, .int .i64 x, .int .i64 y] 42)) (w.heap.size + 2) (by simp) 0 0 0 0 none 0 0 40
    have B := below_alloc (below_alloc (below_alloc (Below.refl _ w) (.cells #[.int .i64 a, .int .i64 b, .int .i64 c, .int .i64 d, .slice s l.length m] 40)) (.cells #[.int .i64 n, .bool sg, .int .i64 x, .int .i64 y] 42)) (.cells #[.int .i64 0, .int .i64 0, .int .i64 0, .int .i64 0, .slice none 0 0] 40)
    have lp := ((hH.alloc (.cells #[.int .i64 a, .int .i64 b, .int .i64 c, .int .i64 d, .slice s l.length m] 40)).alloc (.cells #[.int .i64 n, .bool sg, .int .i64 x, .int .i64 y] 42)).alloc (.cells #[.int .i64 0, .int .i64 0, .int .i64 0, .int .i64 0, .slice none 0 0] 40)
    go_enter Try.func36, Try.ntmps36
    obtain ⟨p0, p1, p2, p3, p4⟩ := p.open
    go_wp2_with fail
    clear p0 p1 p2 p3 p4
    refine (pv_r _ _ _ _ _ _ _ _).mono ?_
    rintro e w1 ⟨rfl, hb⟩
    replace p := p.below hb
    replace k := k.below hb
    replace z := z.below hb
    replace B := below_call B hb
    replace lp := lp.call hb
    clear hb
    obtain ⟨k0, k1, k2, k3⟩ := k.open
    obtain ⟨z0, z1, z2, z3, z4⟩ := z.open
    have gz := z.free
    go_wp2_with fail
    refine bodyPost_ret (v := .tuple #[.agg #[.int .i64 0, .int .i64 0, .int .i64 0, .int .i64 0, .slice none 0 0], .int .i64 12]) ?_ rfl ?_
    · simp [results, Try.results36, go_sem, z0, z1, z2, z3, z4]
    · exact ⟨none, 0, rfl, .inl rfl, below5 B (by omega) _ _ _ _ _, Nat.le_refl _⟩
set_option maxRecDepth 100000 in
set_option maxHeartbeats 4000000 in
theorem usr_no1 (a b c d n x y : Int) (sg : Bool) (s : Option Addr) (m : Nat) (l : List Int) (w : World) (hH : HoldsI w s l) (hp : pvB a b c d l.length = false) : Calls Try.prog 39 #[.agg #[.int .i64 a, .int .i64 b, .int .i64 c, .int .i64 d, .slice s l.length m], .agg #[.int .i64 n, .bool sg, .int .i64 x, .int .i64 y]] w (GivesPlane ⟨0, 0, 0, 0⟩ [] 1 w) := by
  have p := ((QBox.fresh w a b c d s l.length m 40).alloc (.cells #[.int .i64 n, .bool sg, .int .i64 x, .int .i64 y] 42)).alloc (.cells #[.int .i64 0, .int .i64 0, .int .i64 0, .int .i64 0, .slice none 0 0] 40)
  have k := (CBox.freshAt (w.alloc (.cells #[.int .i64 a, .int .i64 b, .int .i64 c, .int .i64 d, .slice s l.length m] 40)) (w.heap.size + 1) (by simp) n sg x y 42).alloc (.cells #[.int .i64 0, .int .i64 0, .int .i64 0, .int .i64 0, .slice none 0 0] 40)
  have z := QBox.freshAt ((w.alloc (.cells #[.int .i64 a, .int .i64 b, .int .i64 c, .int .i64 d, .slice s l.length m] 40)).alloc (.cells #[.int .i64 n, .bool sg, .int .i64 x, .int .i64 y] 42)) (w.heap.size + 2) (by simp) 0 0 0 0 none 0 0 40
  have B := below_alloc (below_alloc (below_alloc (Below.refl _ w) (.cells #[.int .i64 a, .int .i64 b, .int .i64 c, .int .i64 d, .slice s l.length m] 40)) (.cells #[.int .i64 n, .bool sg, .int .i64 x, .int .i64 y] 42)) (.cells #[.int .i64 0, .int .i64 0, .int .i64 0, .int .i64 0, .slice none 0 0] 40)
  have lp := ((hH.alloc (.cells #[.int .i64 a, .int .i64 b, .int .i64 c, .int .i64 d, .slice s l.length m] 40)).alloc (.cells #[.int .i64 n, .bool sg, .int .i64 x, .int .i64 y] 42)).alloc (.cells #[.int .i64 0, .int .i64 0, .int .i64 0, .int .i64 0, .slice none 0 0] 40)
  go_enter Try.func39, Try.ntmps39
  obtain ⟨p0, p1, p2, p3, p4⟩ := p.open
  go_wp2_with fail
  clear p0 p1 p2 p3 p4
  refine (pv_r _ _ _ _ _ _ _ _).mono ?_
  rintro e w1 ⟨rfl, hb⟩
  replace p := p.below hb
  replace k := k.below hb
  replace z := z.below hb
  replace B := below_call B hb
  replace lp := lp.call hb
  clear hb
  obtain ⟨z0, z1, z2, z3, z4⟩ := z.open
  have gz := z.free
  go_wp2_with fail
  refine bodyPost_ret (v := .tuple #[.agg #[.int .i64 0, .int .i64 0, .int .i64 0, .int .i64 0, .slice none 0 0], .int .i64 1]) ?_ rfl ?_
  · simp [results, Try.results39, go_sem, z0, z1, z2, z3, z4]
  · exact ⟨none, 0, rfl, .inl rfl, below5 B (by omega) _ _ _ _ _, Nat.le_refl _⟩
set_option maxRecDepth 100000 in
set_option maxHeartbeats 4000000 in
theorem usr_no2 (a b c d n x y : Int) (sg : Bool) (s : Option Addr) (m : Nat) (l : List Int) (w : World) (hH : HoldsI w s l) (hp : pvB a b c d l.length = true) (hd : Co.dB n = false) : Calls Try.prog 39 #[.agg #[.int .i64 a, .int .i64 b, .int .i64 c, .int .i64 d, .slice s l.length m], .agg #[.int .i64 n, .bool sg, .int .i64 x, .int .i64 y]] w (GivesPlane ⟨0, 0, 0, 0⟩ [] 12 w) := by
  have n1 : n < 1 ∨ 16 < n := by
    rcases Decidable.em (n < 1 ∨ 16 < n) with q | q
    · exact q
    · rw [Co.d_iff.2 ⟨by omega, by omega⟩] at hd; exact absurd hd (by decide)
  clear hd
  by_cases n2 : n < 1
  · clear n1
    have p := ((QBox.fresh w a b c d s l.length m 40).alloc (.cells #[.int .i64 n, .bool sg, .int .i64 x, .int .i64 y] 42)).alloc (.cells #[.int .i64 0, .int .i64 0, .int .i64 0, .int .i64 0, .slice none 0 0] 40)
    have k := (CBox.freshAt (w.alloc (.cells #[.int .i64 a, .int .i64 b, .int .i64 c, .int .i64 d, .slice s l.length m] 40)) (w.heap.size + 1) (by simp) n sg x y 42).alloc (.cells #[.int .i64 0, .int .i64 0, .int .i64 0, .int .i64 0, .slice none 0 0] 40)
    have z := QBox.freshAt ((w.alloc (.cells #[.int .i64 a, .int .i64 b, .int .i64 c, .int .i64 d, .slice s l.length m] 40)).alloc (.cells #[.int .i64 n, .bool sg, .int .i64 x, .int .i64 y] 42)) (w.heap.size + 2) (by simp) 0 0 0 0 none 0 0 40
    have B := below_alloc (below_alloc (below_alloc (Below.refl _ w) (.cells #[.int .i64 a, .int .i64 b, .int .i64 c, .int .i64 d, .slice s l.length m] 40)) (.cells #[.int .i64 n, .bool sg, .int .i64 x, .int .i64 y] 42)) (.cells #[.int .i64 0, .int .i64 0, .int .i64 0, .int .i64 0, .slice none 0 0] 40)
    have lp := ((hH.alloc (.cells #[.int .i64 a, .int .i64 b, .int .i64 c, .int .i64 d, .slice s l.length m] 40)).alloc (.cells #[.int .i64 n, .bool sg, .int .i64 x, .int .i64 y] 42)).alloc (.cells #[.int .i64 0, .int .i64 0, .int .i64 0, .int .i64 0, .slice none 0 0] 40)
    go_enter Try.func39, Try.ntmps39
    obtain ⟨p0, p1, p2, p3, p4⟩ := p.open
    go_wp2_with fail
    clear p0 p1 p2 p3 p4
    refine (pv_r _ _ _ _ _ _ _ _).mono ?_
    rintro e w1 ⟨rfl, hb⟩
    replace p := p.below hb
    replace k := k.below hb
    replace z := z.below hb
    replace B := below_call B hb
    replace lp := lp.call hb
    clear hb
    obtain ⟨k0, k1, k2, k3⟩ := k.open
    obtain ⟨z0, z1, z2, z3, z4⟩ := z.open
    have gz := z.free
    go_wp2_with fail
    refine bodyPost_ret (v := .tuple #[.agg #[.int .i64 0, .int .i64 0, .int .i64 0, .int .i64 0, .slice none 0 0], .int .i64 12]) ?_ rfl ?_
    · simp [results, Try.results39, go_sem, z0, z1, z2, z3, z4]
    · exact ⟨none, 0, rfl, .inl rfl, below5 B (by omega) _ _ _ _ _, Nat.le_refl _⟩
  · have n3 : 16 < n := by omega
    clear n1
    have p := ((QBox.fresh w a b c d s l.length m 40).alloc (.cells #[.int .i64 n, .bool sg, .int .i64 x, .int .i64 y] 42)).alloc (.cells #[.int .i64 0, .int .i64 0, .int .i64 0, .int .i64 0, .slice none 0 0] 40)
    have k := (CBox.freshAt (w.alloc (.cells #[.int .i64 a, .int .i64 b, .int .i64 c, .int .i64 d, .slice s l.length m] 40)) (w.heap.size + 1) (by simp) n sg x y 42).alloc (.cells #[.int .i64 0, .int .i64 0, .int .i64 0, .int .i64 0, .slice none 0 0] 40)
    have z := QBox.freshAt ((w.alloc (.cells #[.int .i64 a, .int .i64 b, .int .i64 c, .int .i64 d, .slice s l.length m] 40)).alloc (.cells #[.int .i64 n, .bool sg, .int .i64 x, .int .i64 y] 42)) (w.heap.size + 2) (by simp) 0 0 0 0 none 0 0 40
    have B := below_alloc (below_alloc (below_alloc (Below.refl _ w) (.cells #[.int .i64 a, .int .i64 b, .int .i64 c, .int .i64 d, .slice s l.length m] 40)) (.cells #[.int .i64 n, .bool sg, .int .i64 x, .int .i64 y] 42)) (.cells #[.int .i64 0, .int .i64 0, .int .i64 0, .int .i64 0, .slice none 0 0] 40)
    have lp := ((hH.alloc (.cells #[.int .i64 a, .int .i64 b, .int .i64 c, .int .i64 d, .slice s l.length m] 40)).alloc (.cells #[.int .i64 n, .bool sg, .int .i64 x, .int .i64 y] 42)).alloc (.cells #[.int .i64 0, .int .i64 0, .int .i64 0, .int .i64 0, .slice none 0 0] 40)
    go_enter Try.func39, Try.ntmps39
    obtain ⟨p0, p1, p2, p3, p4⟩ := p.open
    go_wp2_with fail
    clear p0 p1 p2 p3 p4
    refine (pv_r _ _ _ _ _ _ _ _).mono ?_
    rintro e w1 ⟨rfl, hb⟩
    replace p := p.below hb
    replace k := k.below hb
    replace z := z.below hb
    replace B := below_call B hb
    replace lp := lp.call hb
    clear hb
    obtain ⟨k0, k1, k2, k3⟩ := k.open
    obtain ⟨z0, z1, z2, z3, z4⟩ := z.open
    have gz := z.free
    go_wp2_with fail
    refine bodyPost_ret (v := .tuple #[.agg #[.int .i64 0, .int .i64 0, .int .i64 0, .int .i64 0, .slice none 0 0], .int .i64 12]) ?_ rfl ?_
    · simp [results, Try.results39, go_sem, z0, z1, z2, z3, z4]
    · exact ⟨none, 0, rfl, .inl rfl, below5 B (by omega) _ _ _ _ _, Nat.le_refl _⟩
set_option maxRecDepth 100000 in
set_option maxHeartbeats 4000000 in
theorem shr_all (a b c d n x y : Int) (sg : Bool) (s : Option Addr) (m : Nat) (l : List Int) (w : World) (hH : HoldsI w s l) (hp : pvB a b c d l.length = true) (hd : Co.dB n = true) : Calls Try.prog 36 #[.agg #[.int .i64 a, .int .i64 b, .int .i64 c, .int .i64 d, .slice s l.length m], .agg #[.int .i64 n, .bool sg, .int .i64 x, .int .i64 y]] w fun e w' => (inB (Co.rgL sg n) (Co.rgH sg n) l = true → GivesPlane ⟨a, b, c, d⟩ (addL (-(Co.offC sg n)) l) 0 w e w') ∧ (inB (Co.rgL sg n) (Co.rgH sg n) l = false → GivesPlane ⟨0, 0, 0, 0⟩ [] 2 w e w') := by
  have rz := rg_zero (sg := sg) hd
  have hl1 := pv_le hp
  have hdd := Co.d_iff.1 hd
  have m1 : ¬ n < 1 := by omega
  have m2 : ¬ 16 < n := by omega
  obtain ⟨i0, hi', hz0, hz1, hz2⟩ := info_parts infoI
  have p := ((QBox.fresh w a b c d s l.length m 40).alloc (.cells #[.int .i64 n, .bool sg, .int .i64 x, .int .i64 y] 42)).alloc (.cells #[.int .i64 0, .int .i64 0, .int .i64 0, .int .i64 0, .slice none 0 0] 40)
  have k := (CBox.freshAt (w.alloc (.cells #[.int .i64 a, .int .i64 b, .int .i64 c, .int .i64 d, .slice s l.length m] 40)) (w.heap.size + 1) (by simp) n sg x y 42).alloc (.cells #[.int .i64 0, .int .i64 0, .int .i64 0, .int .i64 0, .slice none 0 0] 40)
  have z := QBox.freshAt ((w.alloc (.cells #[.int .i64 a, .int .i64 b, .int .i64 c, .int .i64 d, .slice s l.length m] 40)).alloc (.cells #[.int .i64 n, .bool sg, .int .i64 x, .int .i64 y] 42)) (w.heap.size + 2) (by simp) 0 0 0 0 none 0 0 40
  have B := below_alloc (below_alloc (below_alloc (Below.refl _ w) (.cells #[.int .i64 a, .int .i64 b, .int .i64 c, .int .i64 d, .slice s l.length m] 40)) (.cells #[.int .i64 n, .bool sg, .int .i64 x, .int .i64 y] 42)) (.cells #[.int .i64 0, .int .i64 0, .int .i64 0, .int .i64 0, .slice none 0 0] 40)
  have lp := ((hH.alloc (.cells #[.int .i64 a, .int .i64 b, .int .i64 c, .int .i64 d, .slice s l.length m] 40)).alloc (.cells #[.int .i64 n, .bool sg, .int .i64 x, .int .i64 y] 42)).alloc (.cells #[.int .i64 0, .int .i64 0, .int .i64 0, .int .i64 0, .slice none 0 0] 40)
  go_enter Try.func36, Try.ntmps36
  obtain ⟨p0, p1, p2, p3, p4⟩ := p.open
  go_wp2_with fail
  clear p0 p1 p2 p3 p4
  refine (pv_r _ _ _ _ _ _ _ _).mono ?_
  rintro e w1 ⟨rfl, hb⟩
  replace p := p.below hb
  replace k := k.below hb
  replace z := z.below hb
  replace B := below_call B hb
  replace lp := lp.call hb
  clear hb
  obtain ⟨k0, k1, k2, k3⟩ := k.open
  go_wp2_with fail
  clear k0 k1 k2 k3
  refine (rng_r n sg x y _).mono ?_
  rintro e w2 ⟨rfl, hb⟩
  replace p := p.below hb
  replace k := k.below hb
  replace z := z.below hb
  replace B := below_call B hb
  replace lp := lp.call hb
  clear hb
  have hz3 := z.lt
  have R0 : Rl w w2 ⟨a, b, c, d⟩ (.slice s l.length m) n sg x y (.slice none 0 0) [] (w2.alloc (.cells #[.int .i64 a, .int .i64 b, .int .i64 c, .int .i64 d, .slice none 0 0] 40)) := ⟨p.alloc _, k.alloc _, z.alloc _, Gr.start a b c d, below_alloc B _⟩
  obtain ⟨p0, p1, p2, p3, p4⟩ := p.open
  obtain ⟨y0, y1, y2, y3, y4⟩ := R0.p.open
  go_wp2_with fail
  clear p0 p1 p2 p3 p4 y0 y1 y2 y3 y4 p k z B lp
  go_loopw [9] (fun i wr => ∃ (k : Nat) (v : Value), k ≤ l.length ∧ i = .int .i64 k ∧ Hid (∀ j (hj : j < l.length), j < k → Co.rgL sg n ≤ l[j] ∧ l[j] ≤ Co.rgH sg n) ∧ Rl w w2 ⟨a, b, c, d⟩ (.slice s l.length m) n sg x y v ((addL (-(Co.offC sg n)) l).take k) wr) (fun i _ => l.length - (intOf i).toNat)
  case atStart => exact ⟨0, _, by omega, rfl, fun j _ h => absurd h (Nat.not_lt_zero _), by simpa using R0⟩
  case round =>
    obtain ⟨k, v, hk, rfl, hall, hR⟩ := hrel
    clear R0
    obtain ⟨c0, c1, c2, c3, c4⟩ := hR.p.open
    by_cases hlt : k < l.length
    · have hlenk : ((addL (-(Co.offC sg n)) l).take k).length = k := by rw [List.length_take, addL_len]; omega
      rcases hH with rfl | ⟨bb, off, rfl, hr⟩
      · simp at hlt
      have hblt : bb < w.heap.size := cell_lt (hr k hlt)
      have hy0 : wr.cell? ⟨bb, off + k, none⟩ = some (.int .i64 l[k]) := (hR.below.cell (p := ⟨bb, _, none⟩) hblt).trans (hr k hlt)
      have hi1 : (k : Int) < (l.length : Int) := by omega
      by_cases hI : Co.rgL sg n ≤ l[k] ∧ l[k] ≤ Co.rgH sg n
      · have HA : Hid (∀ j (hj : j < l.length), j < k + 1 → Co.rgL sg n ≤ l[j] ∧ l[j] ≤ Co.rgH sg n) := fun j hj hjk => if e : j = k then by subst e; exact hI else hall.out j hj (by omega)
        have HC : Hid _ := add_take (d := -(Co.offC sg n)) hlt
        have hwk : IntKind.i64.wrap ((k : Int) + 1) = (k : Int) + 1 := i64_in' _ (by omega) (by omega)
        have wv : IntKind.i64.wrap (l[k] - Co.offC sg n) = l[k] + -(Co.offC sg n) := by rw [← Int.sub_eq_add_neg]; exact i64_in' _ (by omega) (by omega)
        have g1 : ¬ l[k] < Co.rgL sg n := by omega
        have g2 : ¬ Co.rgH sg n < l[k] := by omega
        obtain ⟨f0, f1, f2, f3, f4⟩ := hR.G.o.open
        obtain ⟨k0, k1, k2, k3⟩ := hR.k.open
        have co := fun W => off_r n sg x y W hd
        have HrH : Hid _ := hr
        clear hr hI hall
        go_wp2_with fail
        go_region_law (first | (go_simp; go_at_call 74; (with_reducible refine (co _).mono ?_); rintro e x1 ⟨rfl, hbx⟩; have Rx := hR.step (below_call ((Below.refl _ _).drew) hbx); have hown : x1.ownsRow (w2.heap.size + 1) 3 1 v k (((addL (-(Co.offC sg n)) l).take k).map (Value.int .i64)) := (by have := Rx.G.own; rw [hlenk] at this; exact this); obtain ⟨c0, c1, c2, c3, c4⟩ := Rx.p.open; obtain ⟨f0, f1, f2, f3, f4⟩ := Rx.G.o.open; have ga := (Rx.G.o.alloc (.cells #[.int .i64 (l[k] + -(Co.offC sg n))] 3)).open.2.2.2.2; have hdz : w2.heap.size < x1.heap.size := Rx.G.o.lt; have hy0 : x1.cell? ⟨bb, off + k, none⟩ = some (.int .i64 l[k]) := (Rx.below.cell (p := ⟨bb, _, none⟩) hblt).trans (HrH.out k hlt); clear hbx; go_wp2_with fail) | (refine step_append_own rfl (.tmp 56) (.tmp 65) 38 rfl (w2.heap.size + 1) 3 i0 (.int .i64 0) 1 8 Try.underlying38 hi' hz0 hz1 hz2 rfl (by decide) _ _ _ rfl (own_below hown ((Below.refl _ _).alloc (Nat.le_refl _) _)) ⟨x1.heap.size, 0, none⟩ 1 1 [.int .i64 (l[k] + -(Co.offC sg n))] rfl rfl (one_new x1 _ _) (oneOne _) (by unfold maxLen; omega) (by omega) (by have := Rx.G.o.lt; simp; omega) ?_; intro v' w6 hown6 hgrow6; obtain ⟨sv, mv, rfl⟩ := own_slice hown6; have R7 := Rx.push hz3 _ hgrow6 (by rw [hlenk]; exact hown6); have hb6 : Below (w2.heap.size + 1) x1 w6 := ((Below.refl _ _).alloc (by have := Rx.G.o.lt; omega) _).grown hgrow6 (by have := Rx.G.o.lt; simp; omega) (fun k hk => (Rx.G.own.lt k hk).1); have o6 := Rx.G.o.belowAt hb6 (by omega); obtain ⟨t0, t1, t2, t3, t4⟩ := o6.open; have t5 := o6.free; clear hb6 hgrow6 hown6))
        all_goals
          rw [HC.out] at R7
          have HG : Hid _ := R7
          clear R7 t0 t1 t2 t3 t4 t5 o6 ga f0 f1 f2 f3 f4 Rx hR hown
          go_wp2
          go_roundw
          case rel => exact ⟨k + 1, _, by omega, by go_num, HA.out, HG.out⟩
          case measure => simp [intOf]; omega
      · have hf : Hid (inB (Co.rgL sg n) (Co.rgH sg n) l = false) := by
          show _ = _
          cases e : inB (Co.rgL sg n) (Co.rgH sg n) l with
          | false => rfl
          | true => exact absurd (in_iff.1 e _ (List.getElem_mem hlt)) hI
        obtain ⟨e0, e1, e2, e3, e4⟩ := hR.z.open
        have g4 := hR.z.free
        have B4 := hR.below
        have HZ : Hid _ := hR.z
        by_cases g1 : l[k] < Co.rgL sg n
        · clear hall hr hI hR
          go_wp2_with fail
          refine bodyPost_ret (v := .tuple #[.agg #[.int .i64 0, .int .i64 0, .int .i64 0, .int .i64 0, .slice none 0 0], .int .i64 2]) ?_ rfl ?_
          · simp [results, Try.results36, go_sem, e0, e1, e2, e3, e4]
          · exact ⟨fun q => by rw [hf.out] at q; exact absurd q (by decide), fun _ => ⟨none, 0, rfl, .inl rfl, below5 B4 (by omega) _ _ _ _ _, Nat.le_refl _⟩⟩
        · have g2 : Co.rgH sg n < l[k] := by omega
          clear hall hr hI hR
          go_wp2_with fail
          refine bodyPost_ret (v := .tuple #[.agg #[.int .i64 0, .int .i64 0, .int .i64 0, .int .i64 0, .slice none 0 0], .int .i64 2]) ?_ rfl ?_
          · simp [results, Try.results36, go_sem, e0, e1, e2, e3, e4]
          · exact ⟨fun q => by rw [hf.out] at q; exact absurd q (by decide), fun _ => ⟨none, 0, rfl, .inl rfl, below5 B4 (by omega) _ _ _ _ _, Nat.le_refl _⟩⟩
    · obtain rfl : k = l.length := by omega
      have ht : Hid (inB (Co.rgL sg n) (Co.rgH sg n) l = true) := in_iff.2 fun v hv => by
        obtain ⟨j, hj, rfl⟩ := List.getElem_of_mem hv
        exact hall.out j hj hj
      obtain ⟨sv, mv, rfl, hmv, hgive⟩ := hR.G.gives (add_end _ l) (w.heap.size + 2) (by omega)
      have z4 := hR.z
      have B4 := hR.below
      obtain ⟨d0, d1, d2, d3, d4⟩ := hR.G.o.open
      obtain ⟨e0, e1, e2, e3, e4⟩ := z4.open
      have g4 := z4.free
      have z4l := z4.lt
      have HV : Hid _ := hgive
      clear hR hgive hall
      go_wp2
      refine bodyPost_ret (v := .tuple #[.agg #[.int .i64 a, .int .i64 b, .int .i64 c, .int .i64 d, .slice sv (addL (-(Co.offC sg n)) l).length mv], .int .i64 0]) ?_ rfl ?_
      · obtain ⟨q0, q1, q2, q3, q4⟩ := (z4.store a b c d (.slice sv (addL (-(Co.offC sg n)) l).length mv)).open
        simp [results, Try.results36, go_sem, q0, q1, q2, q3, q4]
      · exact ⟨fun _ => ⟨sv, mv, rfl, HV.out _ _ _ _ _, below5 B4 (by omega) _ _ _ _ _, hmv⟩, fun q => by rw [ht.out] at q; exact absurd q (by decide)⟩
end Go.Proofs.Ytadkcgpkbcgeoaa
