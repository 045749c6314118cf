/-
  Layer 28: append of bytes to a row of the call's own; contracts of the reference's Append and Uint.
-/
import Derived.Test.YtagfmmkhgggfmaaMh
set_option maxRecDepth 100000
namespace Go.Proofs.Ytagfmmkhgggfmaa
open Go.RowKit

/-- What append to a row of bytes of the call's own leaves. -/
structure Rw (B : Nat) (W : World) (s : Option Addr) (m : Nat) (L : List Int) (w' : World) : Prop where
  own : w'.ownsRow B 5 1 (.slice s L.length m) L.length (L.map (Value.int .u8))
  below : Below B W w'
  le : B ≤ W.heap.size
theorem Rw.holds {B : Nat} {W w' : World} {s : Option Addr} {m : Nat} {L : List Int} (h : Rw B W s m L w') : HoldsB w' s L := by
  obtain ⟨_, s', m', e, hH, _⟩ := HoldsB.of_own h.own
  injection e with e1 e2 e3
  subst e1
  exact hH
theorem Rw.new (w : World) (B : Nat) (hB : B ≤ w.heap.size) : Rw B w (some ⟨w.heap.size, 0, none⟩) 0 [] (w.alloc (.cells #[] 5)) :=
  ⟨by simpa using World.ownsRow_made (e := 5) (size := 1) w #[] 0 hB (by unfold maxLen; omega) (by simp), (Below.refl _ _).alloc hB _, hB⟩
theorem Rw.alloc {B : Nat} {W w' : World} {s : Option Addr} {m : Nat} {L : List Int} (h : Rw B W s m L w') (X : Obj) : Rw B W s m L (w'.alloc X) :=
  ⟨own_below h.own ((Below.refl _ _).alloc (Nat.le_refl _) X), h.below.alloc (Nat.le_trans h.le h.below.size) X, h.le⟩
theorem Rw.call {B : Nat} {W w' w2 : World} {s : Option Addr} {m : Nat} {L : List Int} (h : Rw B W s m L w') (hb : Below w'.heap.size w' w2) : Rw B W s m L w2 :=
  ⟨own_below h.own hb, bcall h.below hb (Nat.le_trans h.le h.below.size), h.le⟩
theorem wpApp {ops : Array Oper} {rest : List Oper} {o : Oper} {a : Act} {Q : Exit → Act → World → Prop} {w W : World} (hgd : o.guard = none) (s x : Operand)
    (ho : o.op = .call { callee := .builtin .append, args := #[s, x], argTypes := #[24, 24] })
    (B : Nat) (l l2 : List Int) (va : Option Addr) (vm : Nat) (hs : a.eval s = .slice va l.length vm) (hr : Rw B W va vm l w)
    (sa : Option Addr) (c : Nat) (hx : a.eval x = .slice sa l2.length c) (hH : HoldsB w sa l2) (hn : sa = none → l2 = [] ∧ c = 0) (hlen : l.length + l2.length ≤ 1000000000)
    (h : ∀ (L : List Int) (s' : Option Addr) (m' : Nat) (w' : World), Hid (L = l ++ l2) → Hid (Rw B W s' m' L w') → wpList Try.prog ops Q rest (a.put o.dst (.slice s' L.length m')) w') :
    wpList Try.prog ops Q (o :: rest) a w := by
  obtain ⟨i0, hi, hz0, hz1, hz2⟩ := info_parts info8
  cases sa with
  | none =>
    obtain ⟨rfl, rfl⟩ := hn rfl
    refine wpList_append_own_none hgd s x 24 ho B 5 i0 1 Try.underlying24 hi _ _ _ hs hr.own (by simpa using hx) ?_
    exact h l va vm w (by simp [Hid]) hr
  | some p =>
    refine wpList_append_own _ hgd s x 24 ho B 5 i0 (.int .u8 0) 1 1 Try.underlying24 hi hz0 hz1 hz2 rfl (by decide) _ _ _ hs hr.own p l2.length c (l2.map (Value.int .u8)) hx (by simp) (holdsB_list hH) (one8 l2) (by unfold maxLen; omega) (by omega) (Nat.le_trans hr.le hr.below.size) ?_
    intro v' w' hown hgrow _
    have h1 : w'.ownsRow B 5 1 v' (l ++ l2).length ((l ++ l2).map (Value.int .u8)) := by
      rw [List.length_append, List.map_append]; exact hown
    obtain ⟨_, s', m', rfl, _⟩ := HoldsB.of_own h1
    exact h (l ++ l2) s' m' w' (Lib.hid rfl) ⟨h1, hr.below.grown hgrow (Nat.le_trans hr.le hr.below.size) (fun k hk => (hr.own.lt k hk).1), hr.le⟩
theorem Rw.gives {B : Nat} {W w w' : World} {s : Option Addr} {m : Nat} {L : List Int} (h : Rw B W s m L w') (hb : Below w.heap.size w W) (hB : w.heap.size ≤ B) (er : Int) (e : Ending) (he : e = .returned (.tuple #[.slice s L.length m, .int .i64 er])) : GivesBE L er w e w' := by
  subst he
  refine ⟨_, rfl, ?_, hb.trans (h.below.mono hB)⟩
  refine ⟨h.own.1, ?_⟩
  rcases h.own.2 with q | ⟨g, cap, cur, q, h1, h2⟩
  · exact .inl q
  · exact .inr ⟨g, cap, cur, q, by omega, h2⟩
theorem dg2 (v : Int) : Mk.dg v 2 = [v / 256 % 256, v % 256] := by simp [Mk.dg]
theorem new2 (w : World) (x y : Int) : HoldsB (w.alloc (.cells #[.int .u8 x, .int .u8 y] 5)) (some ⟨w.heap.size, 0, none⟩) [x, y] := holdsB_new w [x, y]
theorem new1 (w : World) (x : Int) : HoldsB (w.alloc (.cells #[.int .u8 x] 5)) (some ⟨w.heap.size, 0, none⟩) [x] := holdsB_new w [x]
set_option maxHeartbeats 1000000 in
theorem rappend_c (bs : List Int) (s : Option Addr) (m : Nat) (c : Int) (p : List Int) (sp : Option Addr) (mp : Nat) (w : World) (hH : HoldsB w s bs) (hs : s = none → bs = [] ∧ m = 0) (hl : bs.length ≤ 1000000) (hP : HoldsB w sp p) (hsp : sp = none → p = [] ∧ mp = 0) (hp : p.length ≤ 1000000) :
    Calls Try.prog 16 #[.slice s bs.length m, .agg #[.int .i64 c, .slice sp p.length mp]] w (GivesBE (Mk.ap bs c p) (Mk.apE c p) w) := by
  have kk := fun W => rknown_c c W
  have kb := fun W => rbare_c c W
  obtain ⟨W0, hW0⟩ : ∃ W0, W0 = w.alloc (.cells #[.int .i64 c, .slice sp p.length mp] 26) := ⟨_, rfl⟩
  have HB := Lib.hid (show Below w.heap.size w W0 by rw [hW0]; exact (Below.refl _ _).alloc (Nat.le_refl _) _)
  have C0 := Lib.hid (show W0.cell? ⟨w.heap.size, 0, none⟩ = some (.int .i64 c) by rw [hW0]; simp)
  have C1 := Lib.hid (show W0.cell? ⟨w.heap.size, 1, none⟩ = some (.slice sp p.length mp) by rw [hW0]; simp)
  have HLT := Lib.hid (cell_lt C0.out)
  have HH := Lib.hid (hH.call HB.out)
  have HP := Lib.hid (hP.call HB.out)
  have c0 := C0.out
  have c1 := C1.out
  have HS := Lib.hid hs
  have HSP := Lib.hid hsp
  have HW0 := Lib.hid hW0
  clear hH hP hs hsp hW0
  rcases ap_cases c p with ⟨h, e⟩ | ⟨h, h1, h2, e⟩ | ⟨h, h1, h2, e, e3⟩ | ⟨h, h1, h2, e⟩ | ⟨h, h1, h2, e, e3⟩
  · have e2 : Mk.ap bs c p = [] := by rw [Mk.ap, e]; rfl
    rw [e, e2]; rw [h] at kk; have KK := Lib.hid kk; clear e e2 h kb kk
    go_enter Try.func16, Try.ntmps16
    go_upto_region 1 with fail
    rw [← HW0.out]
    go_wp2_with (first | (go_at_call 11; (with_reducible refine (KK.out _).mono ?_); rintro e wn ⟨rfl, rfl⟩) | fail)
    go_ret2
    exact ⟨_, rfl, World.ownsRow_nil _ _ _ _, HB.out⟩
  · have e2 : Mk.ap bs c p = [] := by rw [Mk.ap, e]; rfl
    rw [e, e2]; rw [h] at kk; rw [h1] at kb; have KK := Lib.hid kk; have KB := Lib.hid kb; clear e e2 h kb kk h1
    go_enter Try.func16, Try.ntmps16
    go_upto_region 1 with fail
    rw [← HW0.out]
    go_wp2_with (first | (go_at_call 11; (with_reducible refine (KK.out _).mono ?_); rintro e wn ⟨rfl, rfl⟩) | (go_at_call 13; (with_reducible refine (KB.out _).mono ?_); rintro e wn ⟨rfl, rfl⟩) | fail)
    go_ret2
    exact ⟨_, rfl, World.ownsRow_nil _ _ _ _, HB.out⟩
  · have e2 : Mk.ap bs c p = (bs ++ [c / 256 % 256, c % 256]) := by rw [Mk.ap, if_pos e, e3, dg2]
    rw [e, e2]; rw [h] at kk; rw [h1] at kb; have KK := Lib.hid kk; have KB := Lib.hid kb; clear e e2 e3 h kb kk h1
    have z1 : decide ((0 : Int) < (p.length : Int)) = false := decide_eq_false (by rw [h2]; simp)
    have z2 : decide (0 < p.length) = false := decide_eq_false (by rw [h2]; simp)
    have z3 : decide ((65533 : Int) < (p.length : Int)) = false := decide_eq_false (by rw [h2]; simp)
    have z4 : decide (65533 < p.length) = false := decide_eq_false (by rw [h2]; simp)
    clear h2
    go_enter Try.func16, Try.ntmps16
    go_upto_region 1 with fail
    rw [← HW0.out]
    go_wp2_with (first | (go_at_call 11; (with_reducible refine (KK.out _).mono ?_); rintro e wn ⟨rfl, rfl⟩) | (go_at_call 13; (with_reducible refine (KB.out _).mono ?_); rintro e wn ⟨rfl, rfl⟩) | (at_builtin; refine wpApp rfl _ _ rfl W0.heap.size [] bs _ _ rfl (Rw.new W0 _ (Nat.le_refl _)) s m rfl (HH.out.call ((Below.refl _ _).alloc (Nat.le_refl _) _)) HS.out (by simp only [List.length_nil]; omega) ?_; intro L1 s1 m1 w1 HL1 HR1; have HN1 := Lib.hid (show L1.length = bs.length by rw [HL1.out]; simp); have d0 := (HR1.out.below.cell (p := ⟨w.heap.size, 0, none⟩) HLT.out).trans C0.out) | (at_builtin; refine wpApp rfl _ _ rfl W0.heap.size L1 [c / 256 % 256, c % 256] _ _ rfl (HR1.out.alloc _) (some ⟨w1.heap.size, 0, none⟩) 2 rfl (new2 _ _ _) (by simp) (by have := HN1.out; simp only [List.length_cons, List.length_nil]; omega) ?_; intro L2 s2 m2 w2 HL2 HR2; have HN2 := Lib.hid (show L2.length = bs.length + 2 by rw [HL2.out, List.length_append, HN1.out]; rfl); have d0 := (HR2.out.below.cell (p := ⟨w.heap.size, 0, none⟩) HLT.out).trans C0.out; have d1 := (HR2.out.below.cell (p := ⟨w.heap.size, 1, none⟩) HLT.out).trans C1.out) | fail)
    go_ret2
    rw [show bs ++ [c / 256 % 256, c % 256] = L2 by rw [HL2.out, HL1.out]; rfl]
    exact HR2.out.gives HB.out HB.out.size 0 _ rfl
  · have e2 : Mk.ap bs c p = [] := by rw [Mk.ap, e]; rfl
    rw [e, e2]; rw [h] at kk; rw [h1] at kb; have KK := Lib.hid kk; have KB := Lib.hid kb; clear e e2 h kb kk h1
    go_enter Try.func16, Try.ntmps16
    go_upto_region 1 with fail
    rw [← HW0.out]
    go_wp2_with (first | (go_at_call 11; (with_reducible refine (KK.out _).mono ?_); rintro e wn ⟨rfl, rfl⟩) | (go_at_call 13; (with_reducible refine (KB.out _).mono ?_); rintro e wn ⟨rfl, rfl⟩) | fail)
    go_ret2
    exact ⟨_, rfl, World.ownsRow_nil _ _ _ _, HB.out⟩
  · have e2 : Mk.ap bs c p = bs ++ ([c / 256 % 256, c % 256] ++ ([(p.length + 2 : Int) / 256 % 256, (p.length + 2 : Int) % 256] ++ p)) := by rw [Mk.ap, if_pos e, e3, dg2, dg2]
    rw [show (p.length + 2 : Int) / 256 % 256 = (p.length + 2 : Int) / 256 by omega] at e2
    obtain ⟨T, hT⟩ : ∃ T, T = Mk.ap bs c p := ⟨_, rfl⟩
    rw [← hT] at e2 ⊢
    have HT := Lib.hid e2
    rw [e]; rw [h] at kk; rw [h1] at kb; have KK := Lib.hid kk; have KB := Lib.hid kb; clear e e2 e3 h kb kk h1 hT
    go_enter Try.func16, Try.ntmps16
    go_upto_region 1 with fail
    rw [← HW0.out]
    go_wp2_with (first | (go_at_call 11; (with_reducible refine (KK.out _).mono ?_); rintro e wn ⟨rfl, rfl⟩) | (go_at_call 13; (with_reducible refine (KB.out _).mono ?_); rintro e wn ⟨rfl, rfl⟩) | (at_builtin; refine wpApp rfl _ _ rfl W0.heap.size [] bs _ _ rfl (Rw.new W0 _ (Nat.le_refl _)) s m rfl (HH.out.call ((Below.refl _ _).alloc (Nat.le_refl _) _)) HS.out (by simp only [List.length_nil]; omega) ?_; intro L1 s1 m1 w1 HL1 HR1; have HN1 := Lib.hid (show L1.length = bs.length by rw [HL1.out]; simp); have d0 := (HR1.out.below.cell (p := ⟨w.heap.size, 0, none⟩) HLT.out).trans C0.out) | (at_builtin; refine wpApp rfl _ _ rfl W0.heap.size L1 [c / 256 % 256, c % 256] _ _ rfl (HR1.out.alloc _) (some ⟨w1.heap.size, 0, none⟩) 2 rfl (new2 _ _ _) (by simp) (by have := HN1.out; simp only [List.length_cons, List.length_nil]; omega) ?_; intro L2 s2 m2 w2 HL2 HR2; have HN2 := Lib.hid (show L2.length = bs.length + 2 by rw [HL2.out, List.length_append, HN1.out]; rfl); have d0 := (HR2.out.below.cell (p := ⟨w.heap.size, 0, none⟩) HLT.out).trans C0.out; have d1 := (HR2.out.below.cell (p := ⟨w.heap.size, 1, none⟩) HLT.out).trans C1.out) | (at_builtin; refine wpApp rfl _ _ rfl W0.heap.size L2 [(p.length + 2 : Int) / 256, (p.length + 2 : Int) % 256] _ _ rfl (HR2.out.alloc _) (some ⟨w2.heap.size, 0, none⟩) 2 rfl (new2 _ _ _) (by simp) (by have := HN2.out; simp only [List.length_cons, List.length_nil]; omega) ?_; intro L3 s3 m3 w3 HL3 HR3; have HN3 := Lib.hid (show L3.length = bs.length + 4 by rw [HL3.out, List.length_append, HN2.out]; rfl); have d1 := (HR3.out.below.cell (p := ⟨w.heap.size, 1, none⟩) HLT.out).trans C1.out) | (at_builtin; refine wpApp rfl _ _ rfl W0.heap.size L3 p _ _ rfl HR3.out sp mp rfl (HP.out.below HR3.out.below (Nat.le_refl _)) HSP.out (by have := HN3.out; omega) ?_; intro L4 s4 m4 w4 HL4 HR4) | fail)
    go_ret2
    rw [show T = L4 by rw [HT.out, HL4.out, HL3.out, HL2.out, HL1.out]; simp]
    exact HR4.out.gives HB.out HB.out.size 0 _ rfl
end Go.Proofs.Ytagfmmkhgggfmaa
