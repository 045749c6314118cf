/-
  Layer 15: build: a block of the program and one of the reference with one state.
-/
import Derived.Test.YtbhjapgioaiocaaDoorXk
set_option maxRecDepth 100000
namespace Go.Proofs.YtbhjapgioaiocaaDoor
open Go.RowKit

section
variable {W0 W W' : World} {B A V S T R A2 C w h : Nat} {q q2 : St}
theorem tset_b (H : Two W0 W B A V S T R A2 C w h q q2) (x y v : Int) : Calls Tryd.prog 42 #[.pointer (some ⟨A, 0, none⟩), .int .i64 x, .int .i64 y, .int .i64 v] W fun E W' => ∃ z, E = .returned (.int .i64 z) ∧ Two W0 W' B A V S T R A2 C w h (setQ w h q x y v) q2 := (set_c H.b x y v).mono fun _ _ G => ⟨_, G.1, H.cb G.2.1 G.2.2⟩
theorem tset_r (H : Two W0 W B A V S T R A2 C w h q q2) (x y v : Int) : Calls Tryd.prog 43 #[.pointer (some ⟨A2, 0, none⟩), .int .i64 x, .int .i64 y, .int .i64 v] W fun E W' => ∃ z, E = .returned (.int .i64 z) ∧ Two W0 W' B A V S T R A2 C w h q (setQ w h q2 x y v) := (rset_c H.r x y v).mono fun _ _ G => ⟨_, G.1, H.rb G.2.1 G.2.2⟩
theorem tmark_b (H : Two W0 W B A V S T R A2 C w h q q2) (x y : Int) : Calls Tryd.prog 44 #[.pointer (some ⟨A, 0, none⟩), .int .i64 x, .int .i64 y] W fun E W' => ∃ z, E = .returned (.int .i64 z) ∧ Two W0 W' B A V S T R A2 C w h (markQ w h q x y) q2 := (mark_c H.b x y).mono fun _ _ G => ⟨_, G.1, H.cb G.2.1 G.2.2⟩
theorem tmark_r (H : Two W0 W B A V S T R A2 C w h q q2) (x y : Int) : Calls Tryd.prog 45 #[.pointer (some ⟨A2, 0, none⟩), .int .i64 x, .int .i64 y] W fun E W' => ∃ z, E = .returned (.int .i64 z) ∧ Two W0 W' B A V S T R A2 C w h q (markQ w h q2 x y) := (rmark_c H.r x y).mono fun _ _ G => ⟨_, G.1, H.rb G.2.1 G.2.2⟩
theorem ttouch_b (H : Two W0 W B A V S T R A2 C w h q q2) (x y : Int) (c : Bool) : Calls Tryd.prog 46 #[.pointer (some ⟨A, 0, none⟩), .int .i64 x, .int .i64 y, .bool c] W fun E W' => ∃ z, E = .returned (.int .i64 z) ∧ Two W0 W' B A V S T R A2 C w h (touchQ w h q x y c) q2 := (touch_c H.b x y c).mono fun _ _ G => ⟨_, G.1, H.cb G.2.1 G.2.2⟩
theorem ttouch_r (H : Two W0 W B A V S T R A2 C w h q q2) (x y : Int) (c : Bool) : Calls Tryd.prog 47 #[.pointer (some ⟨A2, 0, none⟩), .int .i64 x, .int .i64 y, .bool c] W fun E W' => ∃ z, E = .returned (.int .i64 z) ∧ Two W0 W' B A V S T R A2 C w h q (touchQ w h q2 x y c) := (rtouch_c H.r x y c).mono fun _ _ G => ⟨_, G.1, H.rb G.2.1 G.2.2⟩
theorem trefine_b (H : Two W0 W B A V S T R A2 C w h q q2) (x y : Int) : Calls Tryd.prog 48 #[.pointer (some ⟨A, 0, none⟩), .int .i64 x, .int .i64 y] W fun E W' => ∃ z, E = .returned (.int .i64 z) ∧ Two W0 W' B A V S T R A2 C w h (refineQ w h q x y) q2 := (refine_c H.b x y).mono fun _ _ G => ⟨_, G.1, H.cb G.2.1 G.2.2⟩
theorem trefine_r (H : Two W0 W B A V S T R A2 C w h q q2) (x y : Int) : Calls Tryd.prog 49 #[.pointer (some ⟨A2, 0, none⟩), .int .i64 x, .int .i64 y] W fun E W' => ∃ z, E = .returned (.int .i64 z) ∧ Two W0 W' B A V S T R A2 C w h q (refineQ w h q2 x y) := (rrefine_c H.r x y).mono fun _ _ G => ⟨_, G.1, H.rb G.2.1 G.2.2⟩
end
theorem l5c {w : World} {g : Nat} {c0 c1 c2 c3 c4 c5 c6 c7 c8 c9 : Value} (h : Blk w g 28 #[c0, c1, c2, c3, c4, c5, c6, c7, c8, c9]) : w.cell? ⟨g, 0, none⟩ = some c0 ∧ w.cell? ⟨g, 1, none⟩ = some c1 ∧ w.cell? ⟨g, 2, none⟩ = some c2 ∧ w.cell? ⟨g, 3, none⟩ = some c3 ∧ w.cell? ⟨g, 4, none⟩ = some c4 ∧ w.cell? ⟨g, 5, none⟩ = some c5 ∧ w.cell? ⟨g, 6, none⟩ = some c6 ∧ w.cell? ⟨g, 7, none⟩ = some c7 ∧ w.cell? ⟨g, 8, none⟩ = some c8 ∧ w.cell? ⟨g, 9, none⟩ = some c9 := ⟨h.cell 0, h.cell 1, h.cell 2, h.cell 3, h.cell 4, h.cell 5, h.cell 6, h.cell 7, h.cell 8, h.cell 9⟩
theorem Rb.low {W : World} {B B2 A C w h : Nat} {q : St} (H : Rb W B A C w h q) (h2 : B2 ≤ B) : Rb W B2 A C w h q := ⟨H.fit, Nat.le_trans h2 H.geA, Nat.le_trans h2 H.geC, H.obj, H.grid, H.out⟩
set_option maxHeartbeats 16000000 in
theorem build_c (w h : Nat) (s : Option Addr) (l : List Int) (cp : Nat) (sf : Option Addr) (fl : List Int) (cf : Nat) (o : Int) (mb mr ms mc my : Bool) (W : World) (hf : fits (w : Int) (h : Int)) (hl : l.length = w * h) (hH : HoldsI W s l) (hF : HoldsF W sf fl) (hok : ∀ v ∈ l, okV v) :
    Calls Tryd.prog 17 #[.agg #[.int .i64 (w : Int), .int .i64 (h : Int), .slice s l.length cp, .slice sf fl.length cf, .int .i64 o, .bool mb, .bool mr, .bool ms, .bool mc, .bool my]] W fun e w' => ∃ B A V S T R A2 C q, e = .returned (.tuple #[.pointer (some ⟨A, 0, none⟩), .pointer (some ⟨A2, 0, none⟩)]) ∧ (∀ x y, okV (q.v x y)) ∧ W.heap.size ≤ B ∧ Two W w' B A V S T R A2 C w h q q := by
  have kn := fun W => new_yes w h hf W
  have kr := fun W => newR_yes w h hf W
  have hM := below_alloc (Below.refl _ W) (.cells #[.int .i64 (w : Int), .int .i64 (h : Int), .slice s l.length cp, .slice sf fl.length cf, .int .i64 o, .bool mb, .bool mr, .bool ms, .bool mc, .bool my] 28)
  have MB := Lib.hid (Blk.new W 28 #[.int .i64 (w : Int), .int .i64 (h : Int), .slice s l.length cp, .slice sf fl.length cf, .int .i64 o, .bool mb, .bool mr, .bool ms, .bool mc, .bool my])
  have HM := Lib.hid hM
  have HI := Lib.hid (hH.call hM)
  have HFF := Lib.hid (hF.call hM)
  have HF := Lib.hid hf
  have HHL := Lib.hid hl
  have HOK := Lib.hid hok
  have hwh : w * h ≤ 64 * 64 := Nat.mul_le_mul (by unfold fits at hf; omega) (by unfold fits at hf; omega)
  have HL4 := Lib.hid (show l.length ≤ 4096 by omega)
  have hsz1 := alloc_size W (.cells #[.int .i64 (w : Int), .int .i64 (h : Int), .slice s l.length cp, .slice sf fl.length cf, .int .i64 o, .bool mb, .bool mr, .bool ms, .bool mc, .bool my] 28)
  obtain ⟨W1, hW1⟩ : ∃ x, x = W.alloc (.cells #[.int .i64 (w : Int), .int .i64 (h : Int), .slice s l.length cp, .slice sf fl.length cf, .int .i64 o, .bool mb, .bool mr, .bool ms, .bool mc, .bool my] 28) := ⟨_, rfl⟩
  have HS1 := Lib.hid (show W1.heap.size = W.heap.size + 1 by rw [hW1]; exact hsz1)
  have MB1 := Lib.hid (show Blk W1 W.heap.size 28 #[.int .i64 (w : Int), .int .i64 (h : Int), .slice s l.length cp, .slice sf fl.length cf, .int .i64 o, .bool mb, .bool mr, .bool ms, .bool mc, .bool my] by rw [hW1]; exact MB.out)
  have HM1 := Lib.hid (show Below W.heap.size W W1 by rw [hW1]; exact HM.out)
  have HI1 := Lib.hid (show HoldsI W1 s l by rw [hW1]; exact HI.out)
  have HF1 := Lib.hid (show HoldsF W1 sf fl by rw [hW1]; exact HFF.out)
  obtain ⟨c0, c1, c2, c3, -, -, -, -, -, -⟩ := l5c MB.out
  have hc1 := fun W' (hb : Below (W.alloc (.cells #[.int .i64 (w : Int), .int .i64 (h : Int), .slice s l.length cp, .slice sf fl.length cf, .int .i64 o, .bool mb, .bool mr, .bool ms, .bool mc, .bool my] 28)).heap.size (W.alloc (.cells #[.int .i64 (w : Int), .int .i64 (h : Int), .slice s l.length cp, .slice sf fl.length cf, .int .i64 o, .bool mb, .bool mr, .bool ms, .bool mc, .bool my] 28)) W') => l5c (MB.out.below hb)
  have HW1 := Lib.hid hW1
  clear hf hl hH hF hok hwh hM MB HM HI HFF hsz1 hW1
  generalize hN : l.length = N at *
  have HN := Lib.hid hN
  clear hN
  go_enter Tryd.func17, Tryd.ntmps17
  go_wp2_with (first | (go_at_call 39; (with_reducible refine (kn _).mono ?_); rintro e wa ⟨A, V, S, T, R, rfl, hC, hB⟩; have HC0 := Lib.hid hC; have HB0 := Lib.hid hB; clear c0 c1 c2 c3; obtain ⟨c0, c1, c2, c3, -, -, -, -, -, -⟩ := hc1 _ hB; clear hC hB) | (go_at_call 41; (with_reducible refine (kr _).mono ?_); rintro e wb ⟨A2, C, rfl, hR, hB⟩; have HR := Lib.hid hR; have HB1 := Lib.hid hB; clear c0 c1 c2 c3; obtain ⟨c0, c1, c2, c3, -, -, -, -, -, -⟩ := hc1 _ (below_call HB0.out hB); clear hR hB))
  rw [← HW1.out] at HC0 HB0
  have HT := Lib.hid (show Two W1 wb W1.heap.size A V S T R A2 C w h St.zero St.zero from ⟨HC0.out.below HB1.out, HR.out.low HB0.out.size, Nat.le_refl _, below_call HB0.out HB1.out⟩)
  clear HC0 HB0 HR HB1 hc1 c0 c1 c2 c3 kn kr HW1
  go_loopw [31] (fun i wr => ∃ (k : Nat) (q : St), k ≤ N ∧ i = .int .i64 (k : Int) ∧ Hid (∀ x y, okV (q.v x y)) ∧ Hid (Two W1 wr W1.heap.size A V S T R A2 C w h q q)) (fun i _ => (N - (intOf i).toNat))
  case atStart => exact ⟨0, St.zero, by omega, rfl, fun x y => show okV 0 by decide, HT⟩
  case round =>
    obtain ⟨k, q, hk, rfl, hq, hT⟩ := hrel
    by_cases hlt : k < N
    · have hlt2 : k < l.length := by have := HN.out; omega
      obtain ⟨b, off, rfl, hA⟩ := (HI1.out.call hT.out.below).resolve_left (fun h => by rw [h] at hlt2; simp at hlt2)
      have p0 := hA k hlt2
      have hmem := List.getElem_mem hlt2
      obtain ⟨v, hve⟩ : ∃ v, v = l[k] := ⟨_, rfl⟩
      rw [← hve] at p0 hmem
      have hov := HOK.out v hmem
      have hwn : ¬ w = 0 := by have := HF.out; unfold fits at this; omega
      have hwp : 0 < w := by have := HF.out; unfold fits at this; omega
      have hy1 : k / w < h := Nat.div_lt_of_lt_mul (by have := HHL.out; omega)
      have m1 : ((k : Int) % (w : Int)) = ((k % w : Nat) : Int) := by rw [Int.natCast_emod]
      have m2 : ((k : Int) / (w : Int)) = ((k / w : Nat) : Int) := by rw [Int.natCast_ediv]
      have m3 : Int.tmod (k : Int) (w : Int) = ((k % w : Nat) : Int) := by rw [Int.tmod_eq_emod_of_nonneg (by omega), m1]
      have m4 : Int.tdiv (k : Int) (w : Int) = ((k / w : Nat) : Int) := by rw [Int.tdiv_eq_ediv_of_nonneg (by omega), m2]
      obtain ⟨xn, hxn⟩ : ∃ x, x = k % w := ⟨_, rfl⟩
      obtain ⟨yn, hyn⟩ : ∃ x, x = k / w := ⟨_, rfl⟩
      rw [← hxn] at m1 m3
      rw [← hyn] at hy1 m2 m4
      clear hxn hyn
      have hyw : yn ≤ 64 := by have := HF.out; unfold fits at this; omega
      have m5 : IntKind.i64.wrap (yn : Int) = (yn : Int) := by rw [IntWalk.i64_left]; unfold wrap64; omega
      have m6 : IntKind.i64.wrap ((k : Int) / (w : Int)) = (yn : Int) := by rw [m2, m5]
      have wk : IntKind.i64.wrap ((k : Int) + 1) = ((k + 1 : Nat) : Int) := by have := HL4.out; rw [IntWalk.i64_left]; unfold wrap64; omega
      have HLT := Lib.hid hlt
      have HQ := Lib.hid (setQ_ok w h q (xn : Int) (yn : Int) v hq.out hov)
      have HC := hT
      clear hve hmem hA hov hq hy1 hyw hT
      by_cases hfl : fl.length = N
      · have hlt3 : k < fl.length := by omega
        obtain ⟨fb, foff, rfl, hAf⟩ : ∃ b off, sf = some ⟨b, off, none⟩ ∧ ∀ W', Below W1.heap.size W1 W' → W'.cell? ⟨b, off + k, none⟩ = some (.int .u8 fl[k]) := by
          rcases HF1.out with h | ⟨b, off, e, hr⟩
          · rw [h] at hlt3; simp at hlt3
          · exact ⟨b, off, e, fun W' hb => (hb.cell (p := ⟨b, _, none⟩) (cell_lt (hr k hlt3))).trans (hr k hlt3)⟩
        have rd : ∀ {W' : World} {q q2 : St}, Two W1 W' W1.heap.size A V S T R A2 C w h q q2 → W'.cell? ⟨W.heap.size, 0, none⟩ = some (.int .i64 (w : Int)) ∧ W'.cell? ⟨W.heap.size, 2, none⟩ = some (.slice (some ⟨b, off, none⟩) N cp) ∧ W'.cell? ⟨W.heap.size, 3, none⟩ = some (.slice (some ⟨fb, foff, none⟩) N cf) ∧ W'.cell? ⟨fb, foff + k, none⟩ = some (.int .u8 fl[k]) := fun H => by
          have b := MB1.out.below H.below
          exact ⟨b.cell 0, b.cell 2, by have := b.cell 3; rw [hfl] at this; exact this, hAf _ H.below⟩
        obtain ⟨f, hfe⟩ : ∃ f, f = fl[k] := ⟨_, rfl⟩
        rw [← hfe] at rd
        obtain ⟨b1, hb1⟩ : ∃ t, bits .and .u8 f 1 = t := ⟨_, rfl⟩
        obtain ⟨b2, hb2⟩ : ∃ t, bits .and .u8 f 2 = t := ⟨_, rfl⟩
        obtain ⟨b4, hb4⟩ : ∃ t, bits .and .u8 f 4 = t := ⟨_, rfl⟩
        obtain ⟨c0, c2, c3, d⟩ := rd HC.out
        have q0 : ∀ (W' : World) (n : Nat), Below W'.heap.size W' (W'.drewN n) := fun W' n => drewN_below W' n
        clear hfe hAf hlt3 hfl hlt2
        by_cases z1 : b1 = 0 <;> by_cases z2 : b2 = 0 <;> by_cases z4 : b4 = 0 <;>
         (have HZ := Lib.hid (And.intro z1 (And.intro z2 z4))
          try subst z1
          try subst z2
          try subst z4
          go_wp2_with fail
          go_quiet (fail)
          have HC := Lib.hid (HC.out.call (q0 _ nq))
          clear c0 c2 c3 d
          obtain ⟨c0, c2, c3, d⟩ := rd HC.out
          generalize wr.drewN nq = W2 at *
          go_wp2_with (first | (go_at_call 42; (with_reducible refine (tset_b HC.out _ _ _).mono ?_); rintro e wn ⟨z, rfl, HX⟩; have HC := Lib.hid HX; clear HX c0 c2 c3 d; obtain ⟨c0, c2, c3, d⟩ := rd HC.out) | (go_at_call 43; (with_reducible refine (tset_r HC.out _ _ _).mono ?_); rintro e wn ⟨z, rfl, HX⟩; have HC := Lib.hid HX; clear HX c0 c2 c3 d; obtain ⟨c0, c2, c3, d⟩ := rd HC.out) | (go_at_call 44; (with_reducible refine (tmark_b HC.out _ _).mono ?_); rintro e wn ⟨z, rfl, HX⟩; have HC := Lib.hid HX; clear HX c0 c2 c3 d; obtain ⟨c0, c2, c3, d⟩ := rd HC.out) | (go_at_call 45; (with_reducible refine (tmark_r HC.out _ _).mono ?_); rintro e wn ⟨z, rfl, HX⟩; have HC := Lib.hid HX; clear HX c0 c2 c3 d; obtain ⟨c0, c2, c3, d⟩ := rd HC.out) | (go_at_call 46; (with_reducible refine (ttouch_b HC.out _ _ _).mono ?_); rintro e wn ⟨z, rfl, HX⟩; have HC := Lib.hid HX; clear HX c0 c2 c3 d; obtain ⟨c0, c2, c3, d⟩ := rd HC.out) | (go_at_call 47; (with_reducible refine (ttouch_r HC.out _ _ _).mono ?_); rintro e wn ⟨z, rfl, HX⟩; have HC := Lib.hid HX; clear HX c0 c2 c3 d; obtain ⟨c0, c2, c3, d⟩ := rd HC.out) | (go_at_call 48; (with_reducible refine (trefine_b HC.out _ _).mono ?_); rintro e wn ⟨z, rfl, HX⟩; have HC := Lib.hid HX; clear HX c0 c2 c3 d; obtain ⟨c0, c2, c3, d⟩ := rd HC.out) | (go_at_call 49; (with_reducible refine (trefine_r HC.out _ _).mono ?_); rintro e wn ⟨z, rfl, HX⟩; have HC := Lib.hid HX; clear HX c0 c2 c3 d; obtain ⟨c0, c2, c3, d⟩ := rd HC.out))
          go_roundw
          case rel => exact ⟨k + 1, _, HLT.out, by go_num, (by intro X Y; (try simp only [refineQ_v, touchQ_v, markQ_v]); exact HQ.out X Y), HC⟩
          case measure => have := HLT.out; simp [intOf]; omega)
      · have rd : ∀ {W' : World} {q q2 : St}, Two W1 W' W1.heap.size A V S T R A2 C w h q q2 → W'.cell? ⟨W.heap.size, 0, none⟩ = some (.int .i64 (w : Int)) ∧ W'.cell? ⟨W.heap.size, 2, none⟩ = some (.slice (some ⟨b, off, none⟩) N cp) ∧ W'.cell? ⟨W.heap.size, 3, none⟩ = some (.slice sf fl.length cf) := fun H => by
          have b := MB1.out.below H.below
          exact ⟨b.cell 0, b.cell 2, b.cell 3⟩
        obtain ⟨c0, c2, c3⟩ := rd HC.out
        have q0 : ∀ (W' : World) (n : Nat), Below W'.heap.size W' (W'.drewN n) := fun W' n => drewN_below W' n
        have hne : ((fl.length : Int) == (N : Int)) = false := by simp; omega
        clear hfl hlt2
        generalize fl.length = NF at *
        go_wp2_with fail
        go_quiet (fail)
        have HC := Lib.hid (HC.out.call (q0 _ nq))
        clear c0 c2 c3
        obtain ⟨c0, c2, c3⟩ := rd HC.out
        generalize wr.drewN nq = W2 at *
        go_wp2_with (first | (go_at_call 42; (with_reducible refine (tset_b HC.out _ _ _).mono ?_); rintro e wn ⟨z, rfl, HX⟩; have HC := Lib.hid HX; clear HX c0 c2 c3 ; obtain ⟨c0, c2, c3⟩ := rd HC.out) | (go_at_call 43; (with_reducible refine (tset_r HC.out _ _ _).mono ?_); rintro e wn ⟨z, rfl, HX⟩; have HC := Lib.hid HX; clear HX c0 c2 c3 ; obtain ⟨c0, c2, c3⟩ := rd HC.out) | (go_at_call 44; (with_reducible refine (tmark_b HC.out _ _).mono ?_); rintro e wn ⟨z, rfl, HX⟩; have HC := Lib.hid HX; clear HX c0 c2 c3 ; obtain ⟨c0, c2, c3⟩ := rd HC.out) | (go_at_call 45; (with_reducible refine (tmark_r HC.out _ _).mono ?_); rintro e wn ⟨z, rfl, HX⟩; have HC := Lib.hid HX; clear HX c0 c2 c3 ; obtain ⟨c0, c2, c3⟩ := rd HC.out) | (go_at_call 46; (with_reducible refine (ttouch_b HC.out _ _ _).mono ?_); rintro e wn ⟨z, rfl, HX⟩; have HC := Lib.hid HX; clear HX c0 c2 c3 ; obtain ⟨c0, c2, c3⟩ := rd HC.out) | (go_at_call 47; (with_reducible refine (ttouch_r HC.out _ _ _).mono ?_); rintro e wn ⟨z, rfl, HX⟩; have HC := Lib.hid HX; clear HX c0 c2 c3 ; obtain ⟨c0, c2, c3⟩ := rd HC.out) | (go_at_call 48; (with_reducible refine (trefine_b HC.out _ _).mono ?_); rintro e wn ⟨z, rfl, HX⟩; have HC := Lib.hid HX; clear HX c0 c2 c3 ; obtain ⟨c0, c2, c3⟩ := rd HC.out) | (go_at_call 49; (with_reducible refine (trefine_r HC.out _ _).mono ?_); rintro e wn ⟨z, rfl, HX⟩; have HC := Lib.hid HX; clear HX c0 c2 c3 ; obtain ⟨c0, c2, c3⟩ := rd HC.out))
        go_roundw
        case rel => exact ⟨k + 1, _, HLT.out, by go_num, HQ, HC⟩
        case measure => have := HLT.out; simp [intOf]; omega
    · go_wp2_with fail
      go_ret2
      exact ⟨W1.heap.size, A, V, S, T, R, A2, C, q, rfl, hq.out, by have := HS1.out; omega, hT.out.b, hT.out.r, by have := HS1.out; omega, below_call HM1.out hT.out.below⟩
end Go.Proofs.YtbhjapgioaiocaaDoor
