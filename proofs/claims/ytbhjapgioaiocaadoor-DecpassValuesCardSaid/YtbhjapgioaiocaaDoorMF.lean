/-
  Layer 16: Run.
  Layer 16: the closure that answers from a list of symbols.
  Layer 16: replay.
  Layer 16: Values: its numbers; two rows that grow; the errors.
-/
import Derived.Test.YtbhjapgioaiocaaDoorME
import Derived.Test.YtbhjapgioaiocaaDoorEk
import Derived.Laws.EntriesVeiled
import Derived.Test.YtbhjapgioaiocaaDoorMB
import Derived.Test.YtbhjapgioaiocaaDoorEo
set_option maxRecDepth 100000
namespace Go.Proofs.YtbhjapgioaiocaaDoor
open Go.RowKit

theorem dknown_c (o : Int) (W : World) : Calls Tryd.prog 74 #[.int .i64 o] W fun e w' => e = .returned (.bool (decide (0 ≤ o ∧ o ≤ 3))) ∧ W = w' := by
  by_cases h1 : 0 ≤ o
  · by_cases h2 : o ≤ 3
    · rw [decide_eq_true (show 0 ≤ o ∧ o ≤ 3 from ⟨h1, h2⟩)]
      go_enter Tryd.func74, Tryd.ntmps74
      go_wp2_with fail
      go_ret
      exact ⟨rfl, rfl⟩
    · rw [decide_eq_false (show ¬ (0 ≤ o ∧ o ≤ 3) by omega)]
      go_enter Tryd.func74, Tryd.ntmps74
      go_wp2_with fail
      go_ret
      exact ⟨by first | rfl | simpa using h2, rfl⟩
  · rw [decide_eq_false (show ¬ (0 ≤ o ∧ o ≤ 3) by omega)]
    go_enter Tryd.func74, Tryd.ntmps74
    go_wp2_with fail
    go_ret
    exact ⟨rfl, rfl⟩
theorem fnNo (w : World) (f : Nat) (cp : Array Value) : (binOp .eql 74 (.func (.func f) #[] cp) .nilFunc).run Tryd.prog w = .ok (.bool false) w := by
  have h : ∀ d : Nat, (Op.equalIn (d + 1) 74 (.func (.func f) #[] cp) .nilFunc).run Tryd.prog w = .ok false w := fun d => by
    simp [Op.equalIn, run_underlying (P := Tryd.prog) (t := 74) Tryd.underlying74]
  simp only [binOp]
  simp [Op.equal, Op.maxDepth, h 9999]
theorem fnYes (w : World) : (binOp .eql 74 .nilFunc .nilFunc).run Tryd.prog w = .ok (.bool true) w := by
  have h : ∀ d : Nat, (Op.equalIn (d + 1) 74 .nilFunc .nilFunc).run Tryd.prog w = .ok true w := fun d => by
    simp [Op.equalIn, run_underlying (P := Tryd.prog) (t := 74) Tryd.underlying74]
  simp only [binOp]
  simp [Op.equal, Op.maxDepth, h 9999]
section
variable {σ : Type} {O : Ora σ}
/-- What a pass is given. -/
structure Dg0 (O : Ora σ) (W : World) (B A V S T R w h : Nat) (q : St) (s : σ) : Prop where
  cb : Cb W B A V S T R w h q
  tabs : Cx.Tabs W
  ok : ∀ x y, okV (q.v x y)
  hB : 3 ≤ B
  oi : O.I W s
  lo : ∀ k, k ∈ [A, V, S, T, R] → k < O.lo
  hi : O.hi ≤ W.heap.size
  fpe : O.fp = [V, S, T, R]
  hlh : O.lo ≤ O.hi
theorem dc_begin {W M wb : World} {B A V S T R w h L : Nat} {q : St} {s0 : σ} (H : Dg0 O W B A V S T R w h q s0) (hM : Below W.heap.size W M) (hb : Below M.heap.size M wb) (hL : Blk wb L 74 #[.func (.func O.f) #[] O.caps]) (hL2 : W.heap.size ≤ L) (s : Nat) (hs : s ≤ 59) (o : Int) (c r : Bool) :
    Dc O M ((wb.alloc (.cells #[.bool r] 4)).alloc (.cells #[.pointer (some ⟨A, 0, none⟩), .int .i64 (s : Int), .int .i64 o, .bool c, .bool r, .func (.func 78) #[] #[.pointer (some ⟨wb.heap.size, 0, none⟩), .pointer (some ⟨L, 0, none⟩)]] 103)) ⟨B, A, V, S, T, R, wb.heap.size + 1, wb.heap.size, L⟩ ⟨w, h, s, o, c, r⟩ (q, s0) := by
  have b1 := below_alloc (Below.refl _ wb) (.cells #[.bool r] 4)
  have b2 := below_alloc (Below.refl _ (wb.alloc (.cells #[.bool r] 4))) (.cells #[.pointer (some ⟨A, 0, none⟩), .int .i64 (s : Int), .int .i64 o, .bool c, .bool r, .func (.func 78) #[] #[.pointer (some ⟨wb.heap.size, 0, none⟩), .pointer (some ⟨L, 0, none⟩)]] 103)
  have hz := (below_call hM hb).size
  have bm := below_call (below_call hb b1) b2
  have ba := below_call hM bm
  have s1 : (wb.alloc (.cells #[.bool r] 4)).heap.size = wb.heap.size + 1 := alloc_size _ _
  have k1 := (Blk.new wb 4 #[.bool r]).below b2
  have k3 := Blk.new (wb.alloc (.cells #[.bool r] 4)) 103 #[.pointer (some ⟨A, 0, none⟩), .int .i64 (s : Int), .int .i64 o, .bool c, .bool r, .func (.func 78) #[] #[.pointer (some ⟨wb.heap.size, 0, none⟩), .pointer (some ⟨L, 0, none⟩)]]
  rw [s1] at k3
  have hi := H.hi
  exact ⟨H.cb.below ba, H.tabs.below ba, k3, k1, (hL.below b1).below b2, O.keep H.oi (Kb.of_below _ ba), H.ok, hs, H.hB, H.lo, ⟨by show O.hi ≤ wb.heap.size + 1; omega, by show O.hi ≤ wb.heap.size; omega, by show O.hi ≤ L; omega⟩, H.fpe, H.hlh, Kd.of_below bm⟩
/-- What Run gives. -/
def DRg (O : Ora σ) (W : World) (B A V S T R w h : Nat) (r : (St × σ) × Bool) (E : Ending) (W' : World) : Prop := E = .returned (.int .i64 (if r.2 = true then 0 else 16)) ∧ Cb W' B A V S T R w h r.1.1 ∧ O.I W' r.1.2 ∧ Kd O.fp O.lo O.ex W W'
theorem dc_end {W M W' : World} {a : Adr} {p : Pp} {e : St × σ} (hM : Below W.heap.size W M) (H : Dc O M W' a p e) : Cb W' a.B a.A a.V a.S a.T a.R p.w p.h e.1 ∧ O.I W' e.2 ∧ Kd O.fp O.lo O.ex W W' := ⟨H.cb, H.oi, (Kd.of_below hM).trans H.kd⟩
/-- A block of Run's own that is neither of ints nor the function's. -/
theorem dc_blk {M W' : World} {a : Adr} {p : Pp} {e : St × σ} (H : Dc O M W' a p e) {k : Nat} {t : TypeId} {cs : Array Value} (hb : Blk M k t cs) (hk : O.hi ≤ k) (ht : t ≠ 3) : Blk W' k t cs :=
  H.kd.blk _ _ _ hb (fun hm => by rw [H.fpe] at hm; have := (H.fp k hm).2; have := H.hlh; omega) fun he => by
    rcases O.exhi k t he with h | h
    · omega
    · exact ht h
set_option maxHeartbeats 8000000 in
theorem drun_ok {W : World} {B A V S T R w h : Nat} {q : St} {s0 : σ} (H : Dg0 O W B A V S T R w h q s0) (hcn : O.cnt s0 ≤ 800000) (pass planes o : Int) (m : Mo) (hc : runE pass planes o = 0) :
    Calls Tryd.prog 37 #[.pointer (some ⟨A, 0, none⟩), .int .i64 pass, .int .i64 planes, .int .i64 o, m.val, .func (.func O.f) #[] O.caps] W (DRg O W B A V S T R w h (dpassS (ppR w h pass planes o m) O.A (kndP pass) m.y (q, s0))) := by
  have hr : 1 ≤ planes ∧ planes ≤ 60 ∧ 0 ≤ pass ∧ pass ≤ 3 * planes - 3 ∧ 0 ≤ o ∧ o ≤ 3 := by
    unfold runE at hc
    split at hc
    · cases hc
    split at hc
    · cases hc
    omega
  have hwz : (((w : Int)) == 0) = false := by have hf := H.cb.fit; unfold fits at hf; simp; omega
  have kz := fun W' (hb : Below W.heap.size W W') => size_c (H.cb.below hb)
  have kk := fun W => dknown_c o W
  rw [decide_eq_true (show 0 ≤ o ∧ o ≤ 3 by omega)] at kk
  have kp := fun W => pass_c pass (by omega) W
  have kr := fun W => raw_c pass m (by omega) W
  have hpl : 0 ≤ plnP pass ∧ plnP pass ≤ planes - 1 := by unfold plnP; split; omega; split <;> omega
  have hkn := knd_in pass hr.2.2.1
  obtain ⟨mb, mr, ms, mc, my⟩ := m
  unfold Mo.val at *
  obtain ⟨sN, hsN⟩ : ∃ s, s = (planes - 1 - plnP pass).toNat := ⟨_, rfl⟩
  have hs59 : sN ≤ 59 := by omega
  have wp1 : IntKind.i64.wrap (planes - 1) = planes - 1 := by rw [IntWalk.i64_left]; unfold wrap64; omega
  have wp2 : IntKind.i64.wrap (planes - 1 - plnP pass) = (sN : Int) := by rw [IntWalk.i64_left]; unfold wrap64; omega
  have wp3 : IntKind.i64.wrap (3 * planes) = 3 * planes := by rw [IntWalk.i64_left]; unfold wrap64; omega
  have wp4 : IntKind.i64.wrap (3 * planes - 3) = 3 * planes - 3 := by rw [IntWalk.i64_left]; unfold wrap64; omega
  have eP : ppR w h pass planes o ⟨mb, mr, ms, mc, my⟩ = ⟨w, h, sN, o, mc, rawM pass mb⟩ := by unfold ppR; rw [hsN]
  rw [eP]
  have hfn := fun w => fnNo w O.f O.caps
  have hp1 : ¬ planes < 1 := by omega
  have hp2 : ¬ 60 < planes := by omega
  have hp3 : ¬ pass < 0 := by omega
  have hp4 : ¬ 3 * planes - 3 < pass := by omega
  have HH := Lib.hid H
  have HS := Lib.hid hs59
  have HC := Lib.hid hcn
  have HF := Lib.hid (show w ≤ 64 ∧ h ≤ 64 by have hf := H.cb.fit; unfold fits at hf; omega)
  have hM := below_alloc (below_alloc (Below.refl _ W) (.cells #[.bool mb, .bool mr, .bool ms, .bool mc, .bool my] 26)) (.cells #[.func (.func O.f) #[] O.caps] 74)
  have M0 := Lib.hid ((Blk.new W 26 #[.bool mb, .bool mr, .bool ms, .bool mc, .bool my]).below (below_alloc (Below.refl _ _) (.cells #[.func (.func O.f) #[] O.caps] 74)))
  have N0 := Lib.hid (show Blk ((W.alloc (.cells #[.bool mb, .bool mr, .bool ms, .bool mc, .bool my] 26)).alloc (.cells #[.func (.func O.f) #[] O.caps] 74)) (W.heap.size + 1) 74 #[.func (.func O.f) #[] O.caps] by
    have := Blk.new (W.alloc (.cells #[.bool mb, .bool mr, .bool ms, .bool mc, .bool my] 26)) 74 #[.func (.func O.f) #[] O.caps]
    rwa [alloc_size] at this)
  have kz1 := kz _ hM
  have HM := Lib.hid hM
  have EB := Lib.hid (fun (wb : World) (rw0 : Bool) hb hL => dc_begin (wb := wb) H hM hb hL (Nat.le_succ _) sN hs59 o mc rw0)
  have EX := Lib.hid (fun (W' : World) (a : Adr) (p : Pp) (e : St × σ) (E : Dc O _ W' a p e) => dc_blk E M0.out H.hi (by decide))
  have EE := Lib.hid (fun (W' : World) (a : Adr) (p : Pp) (e : St × σ) (E : Dc O _ W' a p e) => dc_end hM E)
  clear kz hM H hs59 hr hpl hsN eP hc hcn
  generalize rawM pass mb = rw0 at *
  generalize kndP pass = kd at *
  generalize plnP pass = pl at *
  rcases hkn with rfl | rfl | rfl
  · have kS := fun {M W1 : World} {a : Adr} (E : Dc O M W1 a ⟨w, h, sN, o, mc, rw0⟩ (q, s0)) => dsigp_c E (by have := HC.out; show O.cnt s0 ≤ _; omega)
    have e0 : dpassS ⟨w, h, sN, o, mc, rw0⟩ O.A 0 my (q, s0) = ((scan w h).foldl (dsigS ⟨w, h, sN, o, mc, rw0⟩ O.A) (q, s0), true) := by unfold dpassS; rw [if_pos rfl]
    rw [e0]
    clear e0
    try dsimp only at kS
    generalize (scan w h).foldl (dsigS ⟨w, h, sN, o, mc, rw0⟩ O.A) (q, s0) = e1 at *
    go_enter Tryd.func37, Tryd.ntmps37
    go_wp2_with (first | (go_at_call 77; (with_reducible refine kz1.mono ?_); rintro e wa ⟨rfl, hBa⟩; have WA := Lib.hid hBa; have MB := Lib.hid (M0.out.below hBa); have NB := Lib.hid (N0.out.below hBa); obtain ⟨m0, m1, m2, m3, m4⟩ := md MB.out; have n0 := NB.out.cell 0; clear hBa) | (go_at_call 74; (with_reducible refine (kk _).mono ?_); rintro e wn ⟨rfl, rfl⟩) | (go_at_call 51; (with_reducible refine (kp _).mono ?_); rintro e wn ⟨rfl, rfl⟩) | (go_at_call 52; (with_reducible refine (kr _).mono ?_); rintro e wb ⟨rfl, hBb⟩; have WB := Lib.hid (below_call WA.out hBb); have MC := Lib.hid (MB.out.below hBb); have NC := Lib.hid (NB.out.below hBb); clear m0 m1 m2 m3 m4 n0; obtain ⟨m0, m1, m2, m3, m4⟩ := md MC.out; have n3 := fun X => cell_alloc m3 X; have n4 := fun X Y => cell_alloc (cell_alloc m4 X) Y; have E0 := EB.out _ rw0 WB.out NC.out; have kE := kS E0; clear E0 hBb) | (go_at_call 79; (with_reducible refine kE.mono ?_); rintro e wz ⟨rfl, H2, K2⟩; obtain ⟨v1, v2, v3⟩ := EE.out _ _ _ _ H2; dsimp only at v1 v2 v3; have V1 := Lib.hid v1; have V2 := Lib.hid v2; have V3 := Lib.hid v3; clear v1 v2 v3 H2 K2))
    go_ret
    exact ⟨rfl, V1.out, V2.out, V3.out⟩
  · have kS := fun {M W1 : World} {a : Adr} (E : Dc O M W1 a ⟨w, h, sN, o, mc, rw0⟩ (q, s0)) => drefp_c E (by have := HC.out; show O.cnt s0 ≤ _; omega)
    have e0 : dpassS ⟨w, h, sN, o, mc, rw0⟩ O.A 1 my (q, s0) = ((scan w h).foldl (drefS ⟨w, h, sN, o, mc, rw0⟩ O.A) (q, s0), true) := by unfold dpassS; rw [if_neg (by decide), if_pos rfl]
    rw [e0]
    clear e0
    try dsimp only at kS
    generalize (scan w h).foldl (drefS ⟨w, h, sN, o, mc, rw0⟩ O.A) (q, s0) = e1 at *
    go_enter Tryd.func37, Tryd.ntmps37
    go_wp2_with (first | (go_at_call 77; (with_reducible refine kz1.mono ?_); rintro e wa ⟨rfl, hBa⟩; have WA := Lib.hid hBa; have MB := Lib.hid (M0.out.below hBa); have NB := Lib.hid (N0.out.below hBa); obtain ⟨m0, m1, m2, m3, m4⟩ := md MB.out; have n0 := NB.out.cell 0; clear hBa) | (go_at_call 74; (with_reducible refine (kk _).mono ?_); rintro e wn ⟨rfl, rfl⟩) | (go_at_call 51; (with_reducible refine (kp _).mono ?_); rintro e wn ⟨rfl, rfl⟩) | (go_at_call 52; (with_reducible refine (kr _).mono ?_); rintro e wb ⟨rfl, hBb⟩; have WB := Lib.hid (below_call WA.out hBb); have MC := Lib.hid (MB.out.below hBb); have NC := Lib.hid (NB.out.below hBb); clear m0 m1 m2 m3 m4 n0; obtain ⟨m0, m1, m2, m3, m4⟩ := md MC.out; have n3 := fun X => cell_alloc m3 X; have n4 := fun X Y => cell_alloc (cell_alloc m4 X) Y; have E0 := EB.out _ rw0 WB.out NC.out; have kE := kS E0; clear E0 hBb) | (go_at_call 80; (with_reducible refine kE.mono ?_); rintro e wz ⟨rfl, H2, K2⟩; obtain ⟨v1, v2, v3⟩ := EE.out _ _ _ _ H2; dsimp only at v1 v2 v3; have V1 := Lib.hid v1; have V2 := Lib.hid v2; have V3 := Lib.hid v3; clear v1 v2 v3 H2 K2))
    go_ret
    exact ⟨rfl, V1.out, V2.out, V3.out⟩
  · have kS := fun {M W1 : World} {a : Adr} (E : Dc O M W1 a ⟨w, h, sN, o, mc, rw0⟩ (q, s0)) => dcleanup_c E (by have := HC.out; show O.cnt s0 ≤ _; omega)
    have e0 : dpassS ⟨w, h, sN, o, mc, rw0⟩ O.A 2 my (q, s0) = dendS ⟨w, h, sN, o, mc, rw0⟩ O.A my (doffS ⟨w, h, sN, o, mc, rw0⟩ (dclS ⟨w, h, sN, o, mc, rw0⟩ O.A (q, s0) ((h + 3) / 4)) (scan w h)) := by unfold dpassS; rw [if_neg (by decide), if_neg (by decide)]
    have hcn : O.cnt (doffS ⟨w, h, sN, o, mc, rw0⟩ (dclS ⟨w, h, sN, o, mc, rw0⟩ O.A (q, s0) ((h + 3) / 4)) (scan w h)).2 ≤ 900000 := by
      rw [off_s]
      have h1 := (rch_cl (p := ⟨w, h, sN, o, mc, rw0⟩) (A := O.A) (q, s0) ((h + 3) / 4)).cnt O.hcnt
      have h2 : 12 * w * ((h + 3) / 4) ≤ 12 * 64 * 16 := Nat.mul_le_mul (Nat.mul_le_mul_left _ HF.out.1) (by have := HF.out.2; omega)
      have h3 : O.cnt ((q, s0) : St × σ).2 = O.cnt s0 := rfl
      have := HC.out
      simp only at h1
      omega
    rw [e0]
    clear e0
    try dsimp only at kS
    generalize doffS ⟨w, h, sN, o, mc, rw0⟩ (dclS ⟨w, h, sN, o, mc, rw0⟩ O.A (q, s0) ((h + 3) / 4)) (scan w h) = e1 at *
    have kT := fun {M W1 : World} {a : Adr} (E : Dc O M W1 a ⟨w, h, sN, o, mc, rw0⟩ e1) => dchecked_c E (by omega)
    cases my with
    | false =>
      have e1f : dendS ⟨w, h, sN, o, mc, rw0⟩ O.A false e1 = (e1, true) := rfl
      rw [e1f]
      clear kT hcn e1f
      go_enter Tryd.func37, Tryd.ntmps37
      go_wp2_with (first | (go_at_call 77; (with_reducible refine kz1.mono ?_); rintro e wa ⟨rfl, hBa⟩; have WA := Lib.hid hBa; have MB := Lib.hid (M0.out.below hBa); have NB := Lib.hid (N0.out.below hBa); obtain ⟨m0, m1, m2, m3, m4⟩ := md MB.out; have n0 := NB.out.cell 0; clear hBa) | (go_at_call 74; (with_reducible refine (kk _).mono ?_); rintro e wn ⟨rfl, rfl⟩) | (go_at_call 51; (with_reducible refine (kp _).mono ?_); rintro e wn ⟨rfl, rfl⟩) | (go_at_call 52; (with_reducible refine (kr _).mono ?_); rintro e wb ⟨rfl, hBb⟩; have WB := Lib.hid (below_call WA.out hBb); have MC := Lib.hid (MB.out.below hBb); have NC := Lib.hid (NB.out.below hBb); clear m0 m1 m2 m3 m4 n0; obtain ⟨m0, m1, m2, m3, m4⟩ := md MC.out; have n3 := fun X => cell_alloc m3 X; have n4 := fun X Y => cell_alloc (cell_alloc m4 X) Y; have E0 := EB.out _ rw0 WB.out NC.out; have kE := kS E0; clear E0 hBb) | (go_at_call 81; (with_reducible refine kE.mono ?_); rintro e wz ⟨rfl, H2, K2⟩; have MX := Lib.hid (EX.out _ _ _ _ H2); clear m0 m1 m2 m3 m4 n3 n4; have x4 := (md MX.out).2.2.2.2; obtain ⟨v1, v2, v3⟩ := EE.out _ _ _ _ H2; dsimp only at v1 v2 v3; have V1 := Lib.hid v1; have V2 := Lib.hid v2; have V3 := Lib.hid v3; clear v1 v2 v3 H2 K2))
      go_ret
      exact ⟨rfl, V1.out, V2.out, V3.out⟩
    | true =>
      generalize dendS ⟨w, h, sN, o, mc, rw0⟩ O.A true e1 = z at *
      obtain ⟨e2, y⟩ := z
      try dsimp only at kT
      clear hcn
      cases y
      all_goals
        go_enter Tryd.func37, Tryd.ntmps37
        go_wp2_with (first | (go_at_call 77; (with_reducible refine kz1.mono ?_); rintro e wa ⟨rfl, hBa⟩; have WA := Lib.hid hBa; have MB := Lib.hid (M0.out.below hBa); have NB := Lib.hid (N0.out.below hBa); obtain ⟨m0, m1, m2, m3, m4⟩ := md MB.out; have n0 := NB.out.cell 0; clear hBa) | (go_at_call 74; (with_reducible refine (kk _).mono ?_); rintro e wn ⟨rfl, rfl⟩) | (go_at_call 51; (with_reducible refine (kp _).mono ?_); rintro e wn ⟨rfl, rfl⟩) | (go_at_call 52; (with_reducible refine (kr _).mono ?_); rintro e wb ⟨rfl, hBb⟩; have WB := Lib.hid (below_call WA.out hBb); have MC := Lib.hid (MB.out.below hBb); have NC := Lib.hid (NB.out.below hBb); clear m0 m1 m2 m3 m4 n0; obtain ⟨m0, m1, m2, m3, m4⟩ := md MC.out; have n3 := fun X => cell_alloc m3 X; have n4 := fun X Y => cell_alloc (cell_alloc m4 X) Y; have E0 := EB.out _ rw0 WB.out NC.out; have kE := kS E0; clear E0 hBb) | (go_at_call 81; (with_reducible refine kE.mono ?_); rintro e wz ⟨rfl, H2, K2⟩; have MX := Lib.hid (EX.out _ _ _ _ H2); clear m0 m1 m2 m3 m4 n3 n4; have x4 := (md MX.out).2.2.2.2; have kT2 := kT H2; clear H2 K2) | (go_at_call 82; (with_reducible refine kT2.mono ?_); rintro e wy ⟨rfl, H3, K3⟩; obtain ⟨v1, v2, v3⟩ := EE.out _ _ _ _ H3; dsimp only at v1 v2 v3; have V1 := Lib.hid v1; have V2 := Lib.hid v2; have V3 := Lib.hid v3; clear v1 v2 v3 H3 K3))
        go_ret
        exact ⟨rfl, V1.out, V2.out, V3.out⟩
end
end Go.Proofs.YtbhjapgioaiocaaDoor
set_option maxRecDepth 100000
namespace Go.Proofs.YtbhjapgioaiocaaDoor
open Go.RowKit

instance (a : Sy) (c : Int) : Decidable (fitQ a c) := by unfold fitQ; infer_instance
theorem dfits_c (a : Sy) (c : Int) (W : World) : Calls Tryd.prog 103 #[.agg #[.int .i64 a.1, .int .i64 a.2], .int .i64 c] W fun e w' => e = .returned (.bool (decide (fitQ a c))) ∧ Below W.heap.size W w' := by
  obtain ⟨x, b⟩ := a
  have hb := below_alloc (Below.refl _ W) (.cells #[.int .i64 x, .int .i64 b] 52)
  have HB := Lib.hid hb
  clear hb
  by_cases h1 : x = c
  · subst h1
    by_cases h2 : b = 0
    · subst h2
      rw [decide_eq_true (show fitQ (x, 0) x from ⟨rfl, .inl rfl⟩)]
      go_enter Tryd.func103, Tryd.ntmps103
      go_wp2_with fail
      go_ret
      exact ⟨by first | rfl | simp, HB.out⟩
    · by_cases h3 : b = 1
      · subst h3
        rw [decide_eq_true (show fitQ (x, 1) x from ⟨rfl, .inr rfl⟩)]
        go_enter Tryd.func103, Tryd.ntmps103
        go_wp2_with fail
        go_ret
        exact ⟨by first | rfl | simp, HB.out⟩
      · rw [decide_eq_false (show ¬ fitQ (x, b) x from fun h => h.2.elim h2 h3)]
        have e2 : (b == 0) = false := by simp [h2]
        have e3 : (b == 1) = false := by simp [h3]
        go_enter Tryd.func103, Tryd.ntmps103
        go_wp2_with fail
        go_ret
        exact ⟨by first | rfl | simp [e2, e3], HB.out⟩
  · rw [decide_eq_false (show ¬ fitQ (x, b) c from fun h => h1 h.1)]
    have e1 : (x == c) = false := by simp [h1]
    go_enter Tryd.func103, Tryd.ntmps103
    go_wp2_with fail
    go_ret
    exact ⟨by first | rfl | simp [e1], HB.out⟩
/-- The closure's two variables: what is left of the symbols, and whether a question was wrong. -/
structure LI (Wa : World) (g r : Nat) (W : World) (z : List Sy × Bool) : Prop where
  sl : ∃ sk mk, Blk W g 35 #[.slice sk z.1.length mk] ∧ z.1.length ≤ mk ∧ HoldsY Wa sk z.1
  wr : Blk W r 4 #[.bool z.2]
  be : Below Wa.heap.size Wa W
  gg : Wa.heap.size ≤ g
  gr : Wa.heap.size ≤ r
def exN (g r : Nat) (k : Nat) (t : TypeId) : Prop := (k = g ∧ t = 35) ∨ (k = r ∧ t = 4)
theorem blk_type {W : World} {k : Nat} {t t' : TypeId} {cs cs' : Array Value} (h : Blk W k t cs) (h' : Blk W k t' cs') : t = t' := by
  have := h.symm.trans h'
  simp at this
  exact this.2
theorem below_set {n k : Nat} {Wa W : World} {u : Value} (hb : Below n Wa W) (hk : n ≤ k) : Below n Wa (W.setCell ⟨k, 0, none⟩ u) :=
  ⟨hb.os, hb.tape, hb.output, by have := hb.size; simpa [World.setCell] using this, fun j hj => (Below.heap_setCell W ⟨k, 0, none⟩ u j (by show j ≠ k; omega)).trans (hb.block j hj)⟩
theorem kd_set {lo : Nat} {ex : Nat → TypeId → Prop} {W W1 : World} {k : Nat} {t : TypeId} {cs : Array Value} {u : Value} (hb : Below W.heap.size W W1) (hB : Blk W k t cs) (hk : lo ≤ k) (he : ex k t) : Kd [] lo ex W (W1.setCell ⟨k, 0, none⟩ u) := by
  have far : ∀ j, j ≠ k → (W1.setCell ⟨k, 0, none⟩ u).heap[j]? = W1.heap[j]? := fun j hj => Below.heap_setCell W1 ⟨k, 0, none⟩ u j (by show j ≠ k; exact hj)
  refine ⟨hb.os, hb.tape, hb.output, by have := hb.size; simpa [World.setCell] using this, fun j hj hs _ => (far j (by omega)).trans (hb.block j hs), fun j t' cs' hj _ hn => ?_⟩
  have hne : j ≠ k := fun e => by
    subst e
    rw [blk_type hj hB] at hn
    exact hn he
  exact (far j hne).trans (hj.below hb)
section
variable {Wa W W1 : World} {g r : Nat} {z : List Sy × Bool}
theorem LI.below (H : LI Wa g r W z) (hb : Below W.heap.size W W1) : LI Wa g r W1 z := by
  obtain ⟨sk, mk, h1, h2, h3⟩ := H.sl
  exact ⟨⟨sk, mk, h1.below hb, h2, h3⟩, H.wr.below hb, below_call H.be hb, H.gg, H.gr⟩
theorem LI.kb {fp : List Nat} (H : LI Wa g r W z) (hk : Kb fp W W1) (hf : ∀ k ∈ fp, Wa.heap.size ≤ k) (h1 : g ∉ fp) (h2 : r ∉ fp) : LI Wa g r W1 z := by
  obtain ⟨sk, mk, a, b, c⟩ := H.sl
  exact ⟨⟨sk, mk, (hk.block g a.lt h1).trans a, b, c⟩, (hk.block r H.wr.lt h2).trans H.wr, H.be.trans (hk.below hf H.be.size), H.gg, H.gr⟩
theorem LI.bad (H : LI Wa g r W z) (hb : Below W.heap.size W W1) : LI Wa g r (W1.setCell ⟨r, 0, none⟩ (.bool true)) (z.1, true) ∧ Kd [] (min g r) (exN g r) W (W1.setCell ⟨r, 0, none⟩ (.bool true)) := by
  obtain ⟨sk, mk, h1, h2, h3⟩ := H.sl
  have hne : g ≠ r := h1.ne H.wr (by decide)
  refine ⟨⟨⟨sk, mk, (Below.heap_setCell W1 ⟨r, 0, none⟩ (.bool true) g (by show g ≠ r; exact hne)).trans (h1.below hb), h2, h3⟩, ?_, below_set (below_call H.be hb) H.gr, H.gg, H.gr⟩, kd_set hb H.wr (by omega) (.inr ⟨rfl, rfl⟩)⟩
  have := (H.wr.below hb).set 0 (.bool true)
  simpa using this
theorem LI.pop {a : Sy} {l : List Sy} {b : Bool} {sk' : Option Addr} {mk' : Nat} (H : LI Wa g r W (a :: l, b)) (hb : Below W.heap.size W W1) (h2 : l.length ≤ mk') (h3 : HoldsY Wa sk' l) : LI Wa g r (W1.setCell ⟨g, 0, none⟩ (.slice sk' l.length mk')) (l, b) ∧ Kd [] (min g r) (exN g r) W (W1.setCell ⟨g, 0, none⟩ (.slice sk' l.length mk')) := by
  obtain ⟨sk, mk, h1, _, _⟩ := H.sl
  have hne : g ≠ r := h1.ne H.wr (by decide)
  refine ⟨⟨⟨sk', mk', ?_, h2, h3⟩, (Below.heap_setCell W1 ⟨g, 0, none⟩ (.slice sk' l.length mk') r (by show r ≠ g; omega)).trans (H.wr.below hb), below_set (below_call H.be hb) H.gg, H.gg, H.gr⟩, kd_set hb h1 (by omega) (.inl ⟨rfl, rfl⟩)⟩
  have := (h1.below hb).set 0 (.slice sk' l.length mk')
  simpa using this
end
set_option maxHeartbeats 2000000 in
theorem dnext_c {Wa W : World} {g r : Nat} {z : List Sy × Bool} (H : LI Wa g r W z) (c : Int) : Calls Tryd.prog 102 #[.int .i64 c, .pointer (some ⟨g, 0, none⟩), .pointer (some ⟨r, 0, none⟩)] W fun E W' => E = .returned (.int .i64 (lstO z c).1) ∧ LI Wa g r W' (lstO z c).2 ∧ Kd [] (min g r) (exN g r) W W' := by
  obtain ⟨l, b⟩ := z
  obtain ⟨sk, mk, h1, h2, h3⟩ := H.sl
  have c0 : W.cell? ⟨g, 0, none⟩ = some (.slice sk l.length mk) := h1.cell 0
  have c1 : W.cell? ⟨r, 0, none⟩ = some (.bool b) := H.wr.cell 0
  have f0 := h1.free
  have f1 := H.wr.free
  have HH := Lib.hid H
  cases l with
  | nil =>
    have e0 : lstO ([], b) c = (0, ([], true)) := rfl
    rw [e0]
    have HR := Lib.hid (H.bad (Below.refl _ W))
    replace c0 : W.cell? ⟨g, 0, none⟩ = some (.slice sk 0 mk) := c0
    clear H h1 h2 h3 e0
    go_enter Tryd.func102, Tryd.ntmps102
    go_wp2_with fail
    go_ret
    exact ⟨rfl, HR.out⟩
  | cons a l =>
    obtain ⟨bb, off, rfl, d0, d1⟩ := h3.at (k := 0) (by simp)
    simp only [Nat.zero_mul, Nat.add_zero, List.getElem_cons_zero] at d0 d1
    have d0 := (H.be.cell (p := ⟨bb, off, none⟩) (cell_lt d0)).trans d0
    have d1 := (H.be.cell (p := ⟨bb, off + 1, none⟩) (cell_lt d1)).trans d1
    have kf := fun W => dfits_c a c W
    have hm : l.length + 1 ≤ mk := by simpa using h2
    have hT : HoldsY Wa (some ⟨bb, off + 2, none⟩) l := by have := holdsY_part h3 1; simpa using this
    replace c0 : W.cell? ⟨g, 0, none⟩ = some (.slice (some ⟨bb, off, none⟩) (l.length + 1) mk) := c0
    obtain ⟨x, v⟩ := a
    simp only at kf d0 d1
    by_cases hf : fitQ (x, v) c
    · rw [lst_yes hf]
      rw [decide_eq_true hf] at kf
      by_cases hm1 : mk = 1
      · subst hm1
        obtain rfl : l = [] := List.length_eq_zero_iff.1 (by omega)
        have HP := Lib.hid (fun W1 hb => H.pop (W1 := W1) (sk' := some ⟨bb, off, none⟩) hb (mk' := 0) (by simp) (.inl rfl))
        replace c0 : W.cell? ⟨g, 0, none⟩ = some (.slice (some ⟨bb, off, none⟩) 1 1) := c0
        clear H h2 h3 hf hT hm
        go_enter Tryd.func102, Tryd.ntmps102
        go_wp2_with (first | (go_at_call 103; (with_reducible refine (kf _).mono ?_); rintro e w1 ⟨rfl, hb⟩; have HB := Lib.hid hb; have d0 := (hb.cell (p := ⟨bb, off, none⟩) (cell_lt d0)).trans d0; have d1 := (hb.cell (p := ⟨bb, off + 1, none⟩) (cell_lt d1)).trans d1; have c0 := (hb.cell (p := ⟨g, 0, none⟩) (cell_lt c0)).trans c0; have f0 := (h1.below hb).free; clear hb))
        go_ret
        exact ⟨rfl, HP.out _ HB.out⟩
      · have HP := Lib.hid (fun W1 hb => H.pop (W1 := W1) hb (mk' := mk - 1) (by omega) hT)
        clear H h2 h3 hf hT
        go_enter Tryd.func102, Tryd.ntmps102
        go_wp2_with (first | (go_at_call 103; (with_reducible refine (kf _).mono ?_); rintro e w1 ⟨rfl, hb⟩; have HB := Lib.hid hb; have d0 := (hb.cell (p := ⟨bb, off, none⟩) (cell_lt d0)).trans d0; have d1 := (hb.cell (p := ⟨bb, off + 1, none⟩) (cell_lt d1)).trans d1; have c0 := (hb.cell (p := ⟨g, 0, none⟩) (cell_lt c0)).trans c0; have f0 := (h1.below hb).free; clear hb))
        go_ret
        exact ⟨rfl, HP.out _ HB.out⟩
    · rw [lst_no hf]
      rw [decide_eq_false hf] at kf
      have HR := Lib.hid (fun W1 hb => H.bad (W1 := W1) hb)
      have hw := H.wr
      clear H h1 h2 h3 hf hT
      go_enter Tryd.func102, Tryd.ntmps102
      go_wp2_with (first | (go_at_call 103; (with_reducible refine (kf _).mono ?_); rintro e w1 ⟨rfl, hb⟩; have HB := Lib.hid hb; have c1 := (hb.cell (p := ⟨r, 0, none⟩) (cell_lt c1)).trans c1; have f1 := (hw.below hb).free; clear hb))
      go_ret
      exact ⟨rfl, HR.out _ HB.out⟩
end Go.Proofs.YtbhjapgioaiocaaDoor
set_option maxRecDepth 100000
namespace Go.Proofs.YtbhjapgioaiocaaDoor
open Go.RowKit

/-- The closure over a list of symbols, as a function that answers. -/
def oraL (Wa : World) (fp : List Nat) (g r hi : Nat) (hf : ∀ k ∈ fp, Wa.heap.size ≤ k) (h1 : g ∉ fp) (h2 : r ∉ fp) (hg : g < hi) (hr : r < hi) : Ora (List Sy × Bool) where
  fp := fp
  lo := min g r
  hi := hi
  ex := exN g r
  f := 102
  caps := #[.pointer (some ⟨g, 0, none⟩), .pointer (some ⟨r, 0, none⟩)]
  A := lstO
  I := LI Wa g r
  cnt := fun _ => 0
  eg := enters_of (fn := Tryd.f102) (by kernel_rfl) (by kernel_rfl) rfl
  keep := fun H hk => H.kb hk hf h1 h2
  call := fun c H _ => dnext_c H c
  hcnt := fun _ _ => Nat.zero_le _
  exlo := fun k t h => by rcases h with ⟨rfl, _⟩ | ⟨rfl, _⟩ <;> omega
  exhi := fun k t h => by rcases h with ⟨rfl, _⟩ | ⟨rfl, _⟩ <;> (left; omega)
  exP := fun k h => by
    rcases h with ⟨_, h⟩ | ⟨_, h⟩
    · exact absurd h (by decide)
    · exact absurd h (by decide)
set_option maxHeartbeats 4000000 in
theorem dreplay_c {Wa W : World} {B A V S T R w h : Nat} {q : St} (H : Cb W B A V S T R w h q) (hT : Cx.Tabs W) (hok : ∀ x y, okV (q.v x y)) (hB : 3 ≤ B) (hBa : Wa.heap.size ≤ B) (be : Below Wa.heap.size Wa W) (sk : Option Addr) (mk : Nat) (L : List Sy) (hY : HoldsY Wa sk L) (hm : L.length ≤ mk) (k : Nat) (planes o : Int) (m : Mo) (hE : runE (k : Int) planes o = 0) :
    Calls Tryd.prog 75 #[.pointer (some ⟨A, 0, none⟩), .slice sk L.length mk, .int .i64 (k : Int), .int .i64 planes, .int .i64 o, m.val] W fun E W' => E = .returned (.int .i64 (replE (replS w h planes o m q k L))) ∧ Cb W' B A V S T R w h (replS w h planes o m q k L).1.1 ∧ Kb [V, S, T, R] W W' := by
  have hold := cb_old H
  have hfp : ∀ j ∈ [V, S, T, R], Wa.heap.size ≤ j ∧ j < W.heap.size := fun j hj => by
    have h1 := hold j (List.mem_cons_of_mem _ hj)
    have v1 := H.geV
    have v2 := H.geS
    have v3 := H.geT
    have v4 := H.geR
    simp at hj
    omega
  obtain ⟨mb, mr, ms, mc, my⟩ := m
  have b1 := below_alloc (Below.refl _ W) (.cells #[.slice sk L.length mk] 35)
  have b2 := below_alloc (Below.refl _ (W.alloc (.cells #[.slice sk L.length mk] 35))) (.cells #[.bool mb, .bool mr, .bool ms, .bool mc, .bool my] 26)
  have b3 := below_alloc (Below.refl _ ((W.alloc (.cells #[.slice sk L.length mk] 35)).alloc (.cells #[.bool mb, .bool mr, .bool ms, .bool mc, .bool my] 26))) (.cells #[.bool false] 4)
  have k1 := ((Blk.new W 35 #[.slice sk L.length mk]).below b2).below b3
  have k2 := (Blk.new (W.alloc (.cells #[.slice sk L.length mk] 35)) 26 #[.bool mb, .bool mr, .bool ms, .bool mc, .bool my]).below b3
  have k3 := Blk.new ((W.alloc (.cells #[.slice sk L.length mk] 35)).alloc (.cells #[.bool mb, .bool mr, .bool ms, .bool mc, .bool my] 26)) 4 #[.bool false]
  have s1 : (W.alloc (.cells #[.slice sk L.length mk] 35)).heap.size = W.heap.size + 1 := alloc_size _ _
  have s2 : ((W.alloc (.cells #[.slice sk L.length mk] 35)).alloc (.cells #[.bool mb, .bool mr, .bool ms, .bool mc, .bool my] 26)).heap.size = W.heap.size + 2 := by rw [alloc_size, alloc_size]
  have s3 : (((W.alloc (.cells #[.slice sk L.length mk] 35)).alloc (.cells #[.bool mb, .bool mr, .bool ms, .bool mc, .bool my] 26)).alloc (.cells #[.bool false] 4)).heap.size = W.heap.size + 3 := by rw [alloc_size, alloc_size, alloc_size]
  rw [s1] at k2
  rw [s2] at k3
  have ba := below_call (below_call b1 b2) b3
  obtain ⟨m0, m1, m2, m3, m4⟩ := md k2
  have n0 := fun X => cell_alloc m0 X
  have bz := be.size
  have ng : W.heap.size ∉ [V, S, T, R] := fun hm => by have := (hfp _ hm).2; omega
  have nr : W.heap.size + 2 ∉ [V, S, T, R] := fun hm => by have := (hfp _ hm).2; omega
  have HO : Dg0 (oraL Wa [V, S, T, R] W.heap.size (W.heap.size + 2) (W.heap.size + 3) (fun j hj => (hfp j hj).1) ng nr (by omega) (by omega)) (((W.alloc (.cells #[.slice sk L.length mk] 35)).alloc (.cells #[.bool mb, .bool mr, .bool ms, .bool mc, .bool my] 26)).alloc (.cells #[.bool false] 4)) B A V S T R w h q (L, false) :=
    ⟨H.below ba, hT.below ba, hok, hB, ⟨⟨sk, mk, k1, hm, hY⟩, k3, below_call be ba, bz, by show Wa.heap.size ≤ W.heap.size + 2; omega⟩, fun j hj => by have := hold j hj; show j < min W.heap.size (W.heap.size + 2); omega, by show W.heap.size + 3 ≤ _; omega, rfl, by show min W.heap.size (W.heap.size + 2) ≤ W.heap.size + 3; omega⟩
  have kR : Calls Tryd.prog 37 #[.pointer (some ⟨A, 0, none⟩), .int .i64 (k : Int), .int .i64 planes, .int .i64 o, .agg #[.bool mb, .bool mr, .bool ms, .bool mc, .bool my], .func (.func 102) #[] #[.pointer (some ⟨W.heap.size, 0, none⟩), .pointer (some ⟨W.heap.size + 2, 0, none⟩)]] (((W.alloc (.cells #[.slice sk L.length mk] 35)).alloc (.cells #[.bool mb, .bool mr, .bool ms, .bool mc, .bool my] 26)).alloc (.cells #[.bool false] 4)) fun E W' => E = .returned (.int .i64 (if (replS w h planes o ⟨mb, mr, ms, mc, my⟩ q k L).2 = true then 0 else 16)) ∧ Cb W' B A V S T R w h (replS w h planes o ⟨mb, mr, ms, mc, my⟩ q k L).1.1 ∧ LI Wa W.heap.size (W.heap.size + 2) W' (replS w h planes o ⟨mb, mr, ms, mc, my⟩ q k L).1.2 ∧ Kb [V, S, T, R] W W' :=
    (drun_ok HO (by show 0 ≤ _; omega) (k : Int) planes o ⟨mb, mr, ms, mc, my⟩ hE).mono fun E W' z => by
      obtain ⟨z1, z2, z3, z4⟩ := z
      refine ⟨z1, z2, z3, z4.os.trans ba.os, z4.tape.trans ba.tape, z4.output.trans ba.output, Nat.le_trans ba.size z4.size, fun j hj hn => ?_⟩
      exact (z4.old j (by show j < min W.heap.size (W.heap.size + 2); omega) (by have := ba.size; omega) hn).trans (ba.block j hj)
  have kM : (Mo.val ⟨mb, mr, ms, mc, my⟩) = .agg #[.bool mb, .bool mr, .bool ms, .bool mc, .bool my] := rfl
  rw [kM]
  generalize replS w h planes o ⟨mb, mr, ms, mc, my⟩ q k L = r at *
  obtain ⟨⟨q', l', wr⟩, ok⟩ := r
  simp only at kR ⊢
  unfold replE
  simp only
  clear H hT hok hB hBa be hY hm hE hold hfp b1 b2 b3 k1 k2 k3 s1 s2 s3 ba bz ng nr HO kM m1 m2 m3 m4
  cases wr with
  | true =>
    rw [if_pos rfl]
    cases ok
    all_goals
      go_enter Tryd.func75, Tryd.ntmps75
      go_wp2_with (first | (go_at_call 37; (with_reducible refine kR.mono ?_); rintro e w1 ⟨rfl, hC, hI, hK⟩; have c0 := hI.wr.cell 0; have HC := Lib.hid hC; have HK := Lib.hid hK; clear hC hI hK))
      go_ret
      exact ⟨rfl, HC.out, HK.out⟩
  | false =>
    rw [if_neg (by decide)]
    cases ok with
    | false =>
      rw [if_pos rfl]
      go_enter Tryd.func75, Tryd.ntmps75
      go_wp2_with (first | (go_at_call 37; (with_reducible refine kR.mono ?_); rintro e w1 ⟨rfl, hC, hI, hK⟩; have c0 := hI.wr.cell 0; have HC := Lib.hid hC; have HK := Lib.hid hK; clear hC hI hK))
      go_ret
      exact ⟨rfl, HC.out, HK.out⟩
    | true =>
      rw [if_neg (by decide)]
      cases l' with
      | nil =>
        rw [if_neg (by simp)]
        go_enter Tryd.func75, Tryd.ntmps75
        go_wp2_with (first | (go_at_call 37; (with_reducible refine kR.mono ?_); rintro e w1 ⟨rfl, hC, hI, hK⟩; have c0 := hI.wr.cell 0; obtain ⟨sk', mk', x1, -, -⟩ := hI.sl; have c1 := x1.cell 0; replace c1 : w1.cell? ⟨W.heap.size, 0, none⟩ = some (.slice sk' 0 mk') := c1; have HC := Lib.hid hC; have HK := Lib.hid hK; clear hC hI hK x1))
        go_ret
        exact ⟨rfl, HC.out, HK.out⟩
      | cons x l' =>
        rw [if_pos (by simp)]
        go_enter Tryd.func75, Tryd.ntmps75
        go_wp2_with (first | (go_at_call 37; (with_reducible refine kR.mono ?_); rintro e w1 ⟨rfl, hC, hI, hK⟩; have c0 := hI.wr.cell 0; obtain ⟨sk', mk', x1, -, -⟩ := hI.sl; have c1 := x1.cell 0; replace c1 : w1.cell? ⟨W.heap.size, 0, none⟩ = some (.slice sk' (l'.length + 1) mk') := c1; have HC := Lib.hid hC; have HK := Lib.hid hK; clear hC hI hK x1))
        go_ret
        exact ⟨rfl, HC.out, HK.out⟩
end Go.Proofs.YtbhjapgioaiocaaDoor
set_option maxRecDepth 100000
namespace Go.Proofs.YtbhjapgioaiocaaDoor
open Go.RowKit

/-- A list of lists of symbols in memory, with room for each. -/
def HoldsW (w : World) (s : Option Addr) (L : List (List Sy)) : Prop := L = [] ∨ ∃ b off, s = some ⟨b, off, none⟩ ∧ ∀ k (h : k < L.length), ∃ sk mk, w.cell? ⟨b, off + k, none⟩ = some (.slice sk L[k].length mk) ∧ HoldsY w sk L[k] ∧ L[k].length ≤ mk
theorem HoldsW.at {w : World} {s : Option Addr} {L : List (List Sy)} (h : HoldsW w s L) {k : Nat} (hk : k < L.length) : ∃ b off sk mk, s = some ⟨b, off, none⟩ ∧ w.cell? ⟨b, off + k, none⟩ = some (.slice sk L[k].length mk) ∧ HoldsY w sk L[k] ∧ L[k].length ≤ mk := by
  rcases h with rfl | ⟨b, off, rfl, hr⟩
  · simp at hk
  · obtain ⟨sk, mk, h1, h2, h3⟩ := hr k hk
    exact ⟨b, off, sk, mk, rfl, h1, h2, h3⟩
theorem HoldsW.call {w w1 : World} {s : Option Addr} {L : List (List Sy)} (h : HoldsW w s L) (hb : Below w.heap.size w w1) : HoldsW w1 s L := by
  rcases h with h | ⟨b, off, rfl, hr⟩
  · exact .inl h
  · refine .inr ⟨b, off, rfl, fun k hk => ?_⟩
    obtain ⟨sk, mk, h1, h2, h3⟩ := hr k hk
    exact ⟨sk, mk, (hb.cell (p := ⟨b, _, none⟩) (cell_lt h1)).trans h1, h2.call hb, h3⟩
theorem HoldsW.take {w : World} {s : Option Addr} {L : List (List Sy)} (h : HoldsW w s L) (n : Nat) : HoldsW w s (L.take n) := by
  rcases h with rfl | ⟨b, off, rfl, hr⟩
  · exact .inl (by simp)
  · refine .inr ⟨b, off, rfl, fun k hk => ?_⟩
    rw [List.length_take] at hk
    rw [List.getElem_take]
    exact hr k (by omega)
def intsV (l : List Int) : List Value := l.map fun v => .int .i64 v
theorem intsV_app (l : List Int) (a : Int) : intsV (l ++ [a]) = intsV l ++ [.int .i64 a] := by unfold intsV; simp
/-- Two rows of integers of the call's own. -/
structure Tw (W0 W : World) (v u : Value) (x y : List Int) : Prop where
  a : W.ownsRow W0.heap.size 3 1 v x.length (intsV x)
  b : W.ownsRow W0.heap.size 3 1 u y.length (intsV y)
  d : ∀ k, v.ownBlock = some k → u.ownBlock = some k → False
section
variable {W0 W W1 w2 : World} {v u v' : Value} {x y : List Int} {c : Int} {X : Obj}
theorem Tw.nil (W0 W : World) : Tw W0 W (.slice none 0 0) (.slice none 0 0) [] [] := ⟨World.ownsRow_nil _ _ _ _, World.ownsRow_nil _ _ _ _, fun k h => by simp [Value.ownBlock] at h⟩
theorem Tw.below (H : Tw W0 W v u x y) (hb : Below W.heap.size W W1) : Tw W0 W1 v u x y := ⟨own2_below H.a hb, own2_below H.b hb, H.d⟩
theorem Tw.growA (H : Tw W0 W v u x y) (hown : w2.ownsRow W0.heap.size 3 1 v' (x.length + 1) (intsV x ++ [.int .i64 c])) (hg : (W.alloc X).grownBy w2 v.ownBlock) (ho : v'.ownBlock = v.ownBlock ∨ v'.ownBlock = some (W.heap.size + 1)) : Tw W0 w2 v' u (x ++ [c]) y := by
  have hal := below_alloc (Below.refl _ W) X
  refine ⟨by rw [intsV_app, List.length_append]; exact hown, own2_keep H.b fun k hk => ?_, fun k h1 h2 => ?_⟩
  · have h1 := own2_lt H.b hk
    have h2 := hal.size
    rw [hg.block k (by omega) (fun e => H.d k e.symm hk)]
    exact hal.block k h1.2
  · rcases ho with ho | ho
    · exact H.d k (by rw [← ho]; exact h1) h2
    · have h3 := own2_lt H.b h2
      rw [ho] at h1
      have h4 := hal.size
      simp at h1
      omega
theorem Tw.growB {u' : Value} (H : Tw W0 W v u x y) (hown : w2.ownsRow W0.heap.size 3 1 u' (y.length + 1) (intsV y ++ [.int .i64 c])) (hg : (W.alloc X).grownBy w2 u.ownBlock) (ho : u'.ownBlock = u.ownBlock ∨ u'.ownBlock = some (W.heap.size + 1)) : Tw W0 w2 v u' x (y ++ [c]) := by
  have h := Tw.growA (v := u) (u := v) ⟨H.b, H.a, fun k h1 h2 => H.d k h2 h1⟩ hown hg ho
  exact ⟨h.b, h.a, fun k h1 h2 => h.d k h2 h1⟩
theorem tw_below {n : Nat} (hb : Below n W0 W) (hn : n = W0.heap.size) (hg : (W.alloc X).grownBy w2 v.ownBlock) (hl : ∀ k, v.ownBlock = some k → n ≤ k) : Below n W0 w2 := by
  subst hn
  exact (hb.alloc hb.size X).grown hg (by have := hb.size; rw [alloc_size]; omega) hl
end
/-- The numbers of a block, row by row. -/
def rowL (w : Nat) (f : Int → Int → Int) (k : Nat) : List Int := (List.range k).map fun i => f ((i % w : Nat) : Int) ((i / w : Nat) : Int)
theorem rowL_len (w : Nat) (f : Int → Int → Int) (k : Nat) : (rowL w f k).length = k := by simp [rowL]
theorem rowL_succ (w : Nat) (f : Int → Int → Int) (y x : Nat) (hx : x < w) : rowL w f (y * w + x + 1) = rowL w f (y * w + x) ++ [f (x : Int) (y : Int)] := by
  have h1 : (y * w + x) % w = x := by rw [Nat.mul_comm, Nat.mul_add_mod]; exact Nat.mod_eq_of_lt hx
  have h2 : (y * w + x) / w = y := by rw [Nat.mul_comm, Nat.mul_add_div (by omega), Nat.div_eq_of_lt hx]; omega
  unfold rowL
  rw [List.range_succ, List.map_append]
  show _ ++ [f (((y * w + x) % w : Nat) : Int) (((y * w + x) / w : Nat) : Int)] = _
  rw [h1, h2]
/-- How many planes miss, as the code counts. -/
def lftM (planes : Int) (n : Nat) (q : St) (x y : Int) : Int := planes - 1 - plnP ((n : Int) - 1) + if (kndP ((n : Int) - 1) = 0 ∨ kndP ((n : Int) - 1) = 1) ∧ q.t x y = false then 1 else 0
def valC (w h planes o : Int) (m : Mo) (Ls : List (List Sy)) : Int := if ¬ fits w h ∨ planes < 0 ∨ 60 < planes then 2 else if max 0 (3 * planes - 2) < (Ls.length : Int) then 4 else if o < 0 ∨ 3 < o then 3 else (valR w.toNat h.toNat planes o m Ls 0 St.zero).1
def valQ (w h planes o : Int) (m : Mo) (Ls : List (List Sy)) : St := (valR w.toNat h.toNat planes o m Ls 0 St.zero).2
def valV (w h planes o : Int) (m : Mo) (Ls : List (List Sy)) : List Int := if valC w h planes o m Ls = 0 then rowL w.toNat (valQ w h planes o m Ls).v (w.toNat * h.toNat) else []
def valM2 (w h planes o : Int) (m : Mo) (Ls : List (List Sy)) : List Int := if valC w h planes o m Ls = 0 then rowL w.toNat (lftM planes Ls.length (valQ w h planes o m Ls)) (w.toNat * h.toNat) else []
/-- What Values gives. -/
def VG (W : World) (x y : List Int) (c : Int) (E : Ending) (W' : World) : Prop := ∃ v u, E = .returned (.tuple #[v, u, .int .i64 c]) ∧ Tw W W' v u x y ∧ Below W.heap.size W W'
theorem dval_e0 (s : Option Addr) (n cp : Nat) (planes w h o : Int) (m : Mo) (W : World) (hf : ¬ fits w h) : Calls Tryd.prog 32 #[.slice s n cp, .int .i64 planes, .int .i64 w, .int .i64 h, .int .i64 o, m.val] W (VG W [] [] 2) := by
  have k := fun W => new_no w h hf W
  obtain ⟨mb, mr, ms, mc, my⟩ := m
  unfold Mo.val at *
  have HM := Lib.hid (below_alloc (Below.refl _ W) (.cells #[.bool mb, .bool mr, .bool ms, .bool mc, .bool my] 26))
  clear hf
  go_enter Tryd.func32, Tryd.ntmps32
  go_wp2_with (first | (go_at_call 39; (with_reducible refine (k _).mono ?_); rintro e wn ⟨rfl, rfl⟩))
  go_ret3
  exact ⟨_, _, rfl, Tw.nil _ _, HM.out⟩
theorem dval_e1 (s : Option Addr) (n cp : Nat) (planes : Int) (w h : Nat) (o : Int) (m : Mo) (W : World) (hf : fits (w : Int) (h : Int)) (hp : planes < 0 ∨ 60 < planes) : Calls Tryd.prog 32 #[.slice s n cp, .int .i64 planes, .int .i64 (w : Int), .int .i64 (h : Int), .int .i64 o, m.val] W (VG W [] [] 2) := by
  have k := fun W => new_yes w h hf W
  obtain ⟨mb, mr, ms, mc, my⟩ := m
  unfold Mo.val at *
  have HM := Lib.hid (below_alloc (Below.refl _ W) (.cells #[.bool mb, .bool mr, .bool ms, .bool mc, .bool my] 26))
  clear hf
  have h2 : planes < 0 ∨ (¬ planes < 0 ∧ 60 < planes) := by omega
  clear hp
  rcases h2 with h1 | ⟨h1, h3⟩
  all_goals
    go_enter Tryd.func32, Tryd.ntmps32
    go_wp2_with (first | (go_at_call 39; (with_reducible refine (k _).mono ?_); rintro e wn ⟨A, V, S, T, R, rfl, hC, hB⟩; have HB := Lib.hid (below_call HM.out hB); clear hC hB))
    go_ret3
    exact ⟨_, _, rfl, Tw.nil _ _, HB.out⟩
theorem dval_e2 (s : Option Addr) (n cp : Nat) (planes : Int) (w h : Nat) (o : Int) (m : Mo) (W : World) (hf : fits (w : Int) (h : Int)) (hp : 0 ≤ planes ∧ planes ≤ 60) (hn : max 0 (3 * planes - 2) < (n : Int)) : Calls Tryd.prog 32 #[.slice s n cp, .int .i64 planes, .int .i64 (w : Int), .int .i64 (h : Int), .int .i64 o, m.val] W (VG W [] [] 4) := by
  have k := fun W => new_yes w h hf W
  obtain ⟨mb, mr, ms, mc, my⟩ := m
  unfold Mo.val at *
  have HM := Lib.hid (below_alloc (Below.refl _ W) (.cells #[.bool mb, .bool mr, .bool ms, .bool mc, .bool my] 26))
  clear hf
  have h1 : ¬ planes < 0 := by omega
  have h2 : ¬ 60 < planes := by omega
  have wp1 : IntKind.i64.wrap (3 * planes) = 3 * planes := by rw [IntWalk.i64_left]; unfold wrap64; omega
  have wp2 : IntKind.i64.wrap (3 * planes - 2) = 3 * planes - 2 := by rw [IntWalk.i64_left]; unfold wrap64; omega
  have hmx := hmx
  clear hp
  go_enter Tryd.func32, Tryd.ntmps32
  go_wp2_with (first | (go_at_call 39; (with_reducible refine (k _).mono ?_); rintro e wn ⟨A, V, S, T, R, rfl, hC, hB⟩; have HB := Lib.hid (below_call HM.out hB); clear hC hB))
  go_ret3
  exact ⟨_, _, rfl, Tw.nil _ _, HB.out⟩
theorem dval_e3 (s : Option Addr) (n cp : Nat) (planes : Int) (w h : Nat) (o : Int) (m : Mo) (W : World) (hf : fits (w : Int) (h : Int)) (hp : 0 ≤ planes ∧ planes ≤ 60) (hn : ¬ max 0 (3 * planes - 2) < (n : Int)) (ho : ¬ (0 ≤ o ∧ o ≤ 3)) : Calls Tryd.prog 32 #[.slice s n cp, .int .i64 planes, .int .i64 (w : Int), .int .i64 (h : Int), .int .i64 o, m.val] W (VG W [] [] 3) := by
  have k := fun W => new_yes w h hf W
  have kk := fun W => dknown_c o W
  rw [decide_eq_false ho] at kk
  obtain ⟨mb, mr, ms, mc, my⟩ := m
  unfold Mo.val at *
  have HM := Lib.hid (below_alloc (Below.refl _ W) (.cells #[.bool mb, .bool mr, .bool ms, .bool mc, .bool my] 26))
  clear hf ho
  have h1 : ¬ planes < 0 := by omega
  have h2 : ¬ 60 < planes := by omega
  have wp1 : IntKind.i64.wrap (3 * planes) = 3 * planes := by rw [IntWalk.i64_left]; unfold wrap64; omega
  have wp2 : IntKind.i64.wrap (3 * planes - 2) = 3 * planes - 2 := by rw [IntWalk.i64_left]; unfold wrap64; omega
  have hmx := hmx
  clear hp
  go_enter Tryd.func32, Tryd.ntmps32
  go_wp2_with (first | (go_at_call 39; (with_reducible refine (k _).mono ?_); rintro e wn ⟨A, V, S, T, R, rfl, hC, hB⟩; have HB := Lib.hid (below_call HM.out hB); clear hC hB) | (go_at_call 74; (with_reducible refine (kk _).mono ?_); rintro e wn ⟨rfl, rfl⟩))
  go_ret3
  exact ⟨_, _, rfl, Tw.nil _ _, HB.out⟩
end Go.Proofs.YtbhjapgioaiocaaDoor
