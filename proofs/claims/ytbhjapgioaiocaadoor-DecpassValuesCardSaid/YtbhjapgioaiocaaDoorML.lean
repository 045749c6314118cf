/-
  Layer 16: the reference's Run.
  Layer 16: the reference: a pass with the bits of symbols.
-/
import Derived.Test.YtbhjapgioaiocaaDoorMK
import Derived.Test.YtbhjapgioaiocaaDoorEk
import Derived.Test.YtbhjapgioaiocaaDoorFc
import Derived.Test.YtbhjapgioaiocaaDoorMG
set_option maxRecDepth 100000
namespace Go.Proofs.YtbhjapgioaiocaaDoor
open Go.RowKit

theorem yrsize_c {W : World} {B A C w h : Nat} {q : St} (H : Rb W B A C w h q) : Calls Tryd.prog 57 #[.pointer (some ⟨A, 0, none⟩)] W fun e w' => e = .returned (.tuple #[.int .i64 (w : Int), .int .i64 (h : Int)]) ∧ Below W.heap.size W w' := by
  have i := rmade_y H
  obtain ⟨c0, c1, -⟩ := H.cells
  clear H
  go_enter Tryd.func57, Tryd.ntmps57
  go_wp2_with (first | (go_at_call 93; (with_reducible refine i.mono ?_); rintro e wn ⟨rfl, rfl⟩))
  go_quiet (fail)
  go_wp2_with fail
  go_ret2
  exact ⟨rfl, drewN_below _ _⟩
theorem yc_begin {W wb : World} {B A C w h K S : Nat} {q : St} {bits : List Int} {t : List Sy} (H : Rb W B A C w h q) (hok : ∀ x y, okV (q.v x y)) (hx : Src W K S bits t) (hK : K ≤ W.heap.size) (hA : A < K) (hC : C < K) (hb : Below W.heap.size W wb) (s : Nat) (hs : s ≤ 59) (o : Int) (mb mr ms mc my r : Bool) :
    Yc W (wb.alloc (.cells #[.pointer (some ⟨A, 0, none⟩), .int .i64 (s : Int), .int .i64 o, .bool mb, .bool mr, .bool ms, .bool mc, .bool my, .bool r, .pointer (some ⟨S, 0, none⟩)] 133)) ⟨B, A, C, wb.heap.size, S, K⟩ bits ⟨w, h, s, o, mc, r⟩ ⟨mb, mr, ms, mc, my⟩ (q, t) := by
  have ba := below_call hb (below_alloc (Below.refl _ wb) (.cells #[.pointer (some ⟨A, 0, none⟩), .int .i64 (s : Int), .int .i64 o, .bool mb, .bool mr, .bool ms, .bool mc, .bool my, .bool r, .pointer (some ⟨S, 0, none⟩)] 133))
  exact ⟨H.below ba, Blk.new wb 133 (ypV A S ⟨w, h, s, o, mc, r⟩ ⟨mb, mr, ms, mc, my⟩), hx.below ba, hok, hs, rfl, Nat.le_trans hK ba.size, hA, hC, Kd.of_below ba⟩
theorem yc_end {W W' : World} {a : Ady} {bits : List Int} {p : Pp} {m : Mo} {e : St × List Sy} (H : Yc W W' a bits p m e) : Rb W' a.B a.A a.C p.w p.h e.1 ∧ Src W' a.K a.S bits e.2 ∧ Kd [a.C, a.S] a.K (exR a.K) W W' := ⟨H.rb, H.sx, H.kd⟩
/-- What the reference's Run gives. -/
def YRg (W : World) (B A C K S w h : Nat) (bits : List Int) (r : (St × List Sy) × Bool) (E : Ending) (W' : World) : Prop := E = .returned (.int .i64 (if r.2 = true then 0 else 16)) ∧ Rb W' B A C w h r.1.1 ∧ Src W' K S bits r.1.2 ∧ Kd [C, S] K (exR K) W W'
set_option maxHeartbeats 8000000 in
theorem yrun_ok {W : World} {B A C w h K S : Nat} {q : St} {bits : List Int} {t : List Sy} (H : Rb W B A C w h q) (hok : ∀ x y, okV (q.v x y)) (hx : Src W K S bits t) (hK : K ≤ W.heap.size) (hA : A < K) (hC : C < K) (hl : t.length ≤ 800000) (pass planes o : Int) (m : Mo) (hc : runE pass planes o = 0) :
    Calls Tryd.prog 104 #[.pointer (some ⟨A, 0, none⟩), .int .i64 pass, .int .i64 planes, .int .i64 o, m.val, .pointer (some ⟨S, 0, none⟩)] W (YRg W B A C K S w h bits (dpassS (ppR w h pass planes o m) (bitO bits) (kndP pass) m.y (q, t))) := by
  have hr : 1 ≤ planes ∧ planes ≤ 60 ∧ 0 ≤ pass ∧ pass ≤ 3 * planes - 3 ∧ 0 ≤ o ∧ o ≤ 3 := by
    unfold runE at hc
    split at hc
    · cases hc
    · split at hc
      · cases hc
      · omega
  have hf := H.fit
  have hw : (((w : Int)) == 0) = false := by unfold fits at hf; simp; omega
  have kk := fun W => xvalid_c o W
  rw [decide_eq_true (show 0 ≤ o ∧ o ≤ 3 by omega)] at kk
  have kp := fun W => passR_c pass (by omega) W
  have kr := fun W => rawR_c pass m (by omega) W
  have kc := fun W => scanR_yes w h hf W
  have hpl : 0 ≤ plnP pass ∧ plnP pass ≤ planes - 1 := by unfold plnP; split; omega; split <;> omega
  have hkn := knd_in pass hr.2.2.1
  obtain ⟨mb, mr, ms, mc, my⟩ := m
  unfold Mo.val at *
  obtain ⟨sN, hsN⟩ : ∃ s, s = (planes - 1 - plnP pass).toNat := ⟨_, rfl⟩
  have hs59 : sN ≤ 59 := by omega
  have wp1 : IntKind.i64.wrap (planes - 1) = planes - 1 := by rw [IntWalk.i64_left]; unfold wrap64; omega
  have wp2 : IntKind.i64.wrap (planes - 1 - plnP pass) = (sN : Int) := by rw [IntWalk.i64_left]; unfold wrap64; omega
  have w31 : IntKind.i64.wrap (3 * planes) = 3 * planes := by rw [IntWalk.i64_left]; unfold wrap64; omega
  have w32 : IntKind.i64.wrap (3 * planes - 3) = 3 * planes - 3 := by rw [IntWalk.i64_left]; unfold wrap64; omega
  have eP : ppR w h pass planes o ⟨mb, mr, ms, mc, my⟩ = ⟨w, h, sN, o, mc, rawM pass mb⟩ := by unfold ppR; rw [hsN]
  rw [eP]
  have g1 : ¬ planes < 1 := by omega
  have g2 : ¬ 60 < planes := by omega
  have g3 : ¬ pass < 0 := by omega
  have g4 : ¬ 3 * planes - 3 < pass := by omega
  have HL := Lib.hid hl
  have HS := Lib.hid hs59
  have HE0 := Lib.hid (fun (wb : World) (hb : Below W.heap.size W wb) (rw0 : Bool) => yc_begin H hok hx hK hA hC hb sN hs59 o mb mr ms mc my rw0)
  have hM := below_alloc (Below.refl _ W) (.cells #[.bool mb, .bool mr, .bool ms, .bool mc, .bool my] 26)
  have ks := yrsize_c (H.below hM)
  have HM := Lib.hid hM
  clear hM H hok hs59 hr hpl hsN eP hc hf hx hK hA hC hl
  generalize rawM pass mb = rw0 at *
  generalize kndP pass = kd at *
  generalize plnP pass = pl at *
  rcases hkn with rfl | rfl | rfl
  · have kS := fun {W1 : World} {a : Ady} (E : Yc W W1 a bits ⟨w, h, sN, o, mc, rw0⟩ ⟨mb, mr, ms, mc, my⟩ (q, t)) (s1 : Option Addr) (c1 : Nat) (hP : HoldsP W1 s1 (scan w h)) => ysigp_c E (by have := HL.out; show t.length ≤ _; omega) s1 c1 hP
    have e0 : dpassS ⟨w, h, sN, o, mc, rw0⟩ (bitO bits) 0 my (q, t) = ((scan w h).foldl (dsigS ⟨w, h, sN, o, mc, rw0⟩ (bitO bits)) (q, t), true) := by unfold dpassS; rw [if_pos rfl]
    rw [e0]
    clear e0
    try dsimp only at kS
    generalize (scan w h).foldl (dsigS ⟨w, h, sN, o, mc, rw0⟩ (bitO bits)) (q, t) = e1 at *
    generalize scan w h = L at *
    go_enter Tryd.func104, Tryd.ntmps104
    go_wp2_with (first | (go_at_call 57; (with_reducible refine ks.mono ?_); rintro e wa ⟨rfl, hBa⟩; have HB := Lib.hid (below_call HM.out hBa); have MB := Lib.hid ((Blk.new W 26 #[.bool mb, .bool mr, .bool ms, .bool mc, .bool my]).below hBa); clear hBa) | (go_at_call 27; (with_reducible refine (kk _).mono ?_); rintro e wn ⟨rfl, rfl⟩) | (go_at_call 29; (with_reducible refine (kp _).mono ?_); rintro e wn ⟨rfl, rfl⟩))
    have DB := Lib.hid (below_call HB.out (Below.refl _ _).drew)
    have MD := Lib.hid (MB.out.below (Below.refl _ _).drew)
    obtain ⟨m0, m1, m2, m3, m4⟩ := md MD.out
    go_region_held3 (fun w' => w'.cell? ⟨W.heap.size, 0, none⟩ = some (.bool mb) ∧ w'.cell? ⟨W.heap.size, 1, none⟩ = some (.bool mr) ∧ w'.cell? ⟨W.heap.size, 2, none⟩ = some (.bool ms) ∧ w'.cell? ⟨W.heap.size, 3, none⟩ = some (.bool mc) ∧ w'.cell? ⟨W.heap.size, 4, none⟩ = some (.bool my))
      (first | (with_reducible exact ⟨m0, m1, m2, m3, m4⟩) | (with_reducible exact ⟨n0, n1, n2, n3, n4⟩) | (exact ⟨cell_alloc n0 _, cell_alloc n1 _, cell_alloc n2 _, cell_alloc n3 _, cell_alloc n4 _⟩) | fail)
      (first | (go_simp; go_at_call 28; (with_reducible refine (kr _).mono ?_); rintro e wb ⟨rfl, hBb⟩; have WB := Lib.hid (below_call DB.out hBb); have MC := Lib.hid (MD.out.below hBb); obtain ⟨n0, n1, n2, n3, n4⟩ := md MC.out; have E0 := Lib.hid (HE0.out wb WB.out rw0); clear hBb) | fail)
    all_goals
      generalize wb.alloc (.cells #[.pointer (some ⟨A, 0, none⟩), .int .i64 (sN : Int), .int .i64 o, .bool mb, .bool mr, .bool ms, .bool mc, .bool my, .bool rw0, .pointer (some ⟨S, 0, none⟩)] 133) = W1 at *
      generalize wb.heap.size = g at *
      go_wp2_with (first | (go_at_call 58; (with_reducible refine (kc _).mono ?_); rintro e w1 ⟨s1, c1, rfl, hP, hB⟩; have kE := kS (E0.out.below hB) s1 c1 hP; clear hP hB) | (go_at_call 120; (with_reducible refine kE.mono ?_); rintro e wz ⟨rfl, H2, K2⟩; obtain ⟨v1, v2, v3⟩ := yc_end H2; dsimp only at v1 v2 v3; have V1 := Lib.hid v1; have V2 := Lib.hid v2; have V3 := Lib.hid v3; clear v1 v2 v3 H2 K2))
      go_ret
      exact ⟨rfl, V1.out, V2.out, V3.out⟩
  · have kS := fun {W1 : World} {a : Ady} (E : Yc W W1 a bits ⟨w, h, sN, o, mc, rw0⟩ ⟨mb, mr, ms, mc, my⟩ (q, t)) (s1 : Option Addr) (c1 : Nat) (hP : HoldsP W1 s1 (scan w h)) => yrefp_c E (by have := HL.out; show t.length ≤ _; omega) s1 c1 hP
    have e0 : dpassS ⟨w, h, sN, o, mc, rw0⟩ (bitO bits) 1 my (q, t) = ((scan w h).foldl (drefS ⟨w, h, sN, o, mc, rw0⟩ (bitO bits)) (q, t), true) := by unfold dpassS; rw [if_neg (by decide), if_pos rfl]
    rw [e0]
    clear e0
    try dsimp only at kS
    generalize (scan w h).foldl (drefS ⟨w, h, sN, o, mc, rw0⟩ (bitO bits)) (q, t) = e1 at *
    generalize scan w h = L at *
    go_enter Tryd.func104, Tryd.ntmps104
    go_wp2_with (first | (go_at_call 57; (with_reducible refine ks.mono ?_); rintro e wa ⟨rfl, hBa⟩; have HB := Lib.hid (below_call HM.out hBa); have MB := Lib.hid ((Blk.new W 26 #[.bool mb, .bool mr, .bool ms, .bool mc, .bool my]).below hBa); clear hBa) | (go_at_call 27; (with_reducible refine (kk _).mono ?_); rintro e wn ⟨rfl, rfl⟩) | (go_at_call 29; (with_reducible refine (kp _).mono ?_); rintro e wn ⟨rfl, rfl⟩))
    have DB := Lib.hid (below_call HB.out (Below.refl _ _).drew)
    have MD := Lib.hid (MB.out.below (Below.refl _ _).drew)
    obtain ⟨m0, m1, m2, m3, m4⟩ := md MD.out
    go_region_held3 (fun w' => w'.cell? ⟨W.heap.size, 0, none⟩ = some (.bool mb) ∧ w'.cell? ⟨W.heap.size, 1, none⟩ = some (.bool mr) ∧ w'.cell? ⟨W.heap.size, 2, none⟩ = some (.bool ms) ∧ w'.cell? ⟨W.heap.size, 3, none⟩ = some (.bool mc) ∧ w'.cell? ⟨W.heap.size, 4, none⟩ = some (.bool my))
      (first | (with_reducible exact ⟨m0, m1, m2, m3, m4⟩) | (with_reducible exact ⟨n0, n1, n2, n3, n4⟩) | (exact ⟨cell_alloc n0 _, cell_alloc n1 _, cell_alloc n2 _, cell_alloc n3 _, cell_alloc n4 _⟩) | fail)
      (first | (go_simp; go_at_call 28; (with_reducible refine (kr _).mono ?_); rintro e wb ⟨rfl, hBb⟩; have WB := Lib.hid (below_call DB.out hBb); have MC := Lib.hid (MD.out.below hBb); obtain ⟨n0, n1, n2, n3, n4⟩ := md MC.out; have E0 := Lib.hid (HE0.out wb WB.out rw0); clear hBb) | fail)
    all_goals
      generalize wb.alloc (.cells #[.pointer (some ⟨A, 0, none⟩), .int .i64 (sN : Int), .int .i64 o, .bool mb, .bool mr, .bool ms, .bool mc, .bool my, .bool rw0, .pointer (some ⟨S, 0, none⟩)] 133) = W1 at *
      generalize wb.heap.size = g at *
      go_wp2_with (first | (go_at_call 58; (with_reducible refine (kc _).mono ?_); rintro e w1 ⟨s1, c1, rfl, hP, hB⟩; have kE := kS (E0.out.below hB) s1 c1 hP; clear hP hB) | (go_at_call 121; (with_reducible refine kE.mono ?_); rintro e wz ⟨rfl, H2, K2⟩; obtain ⟨v1, v2, v3⟩ := yc_end H2; dsimp only at v1 v2 v3; have V1 := Lib.hid v1; have V2 := Lib.hid v2; have V3 := Lib.hid v3; clear v1 v2 v3 H2 K2))
      go_ret
      exact ⟨rfl, V1.out, V2.out, V3.out⟩
  · have kS := fun {W1 : World} {a : Ady} (E : Yc W W1 a bits ⟨w, h, sN, o, mc, rw0⟩ ⟨mb, mr, ms, mc, my⟩ (q, t)) (s1 : Option Addr) (c1 : Nat) (hP : HoldsP W1 s1 (scan w h)) => ycleanp_c E (by have := HL.out; show t.length ≤ _; omega) s1 c1 hP
    have e0 : dpassS ⟨w, h, sN, o, mc, rw0⟩ (bitO bits) 2 my (q, t) = dendS ⟨w, h, sN, o, mc, rw0⟩ (bitO bits) my (doffS ⟨w, h, sN, o, mc, rw0⟩ (dclS ⟨w, h, sN, o, mc, rw0⟩ (bitO bits) (q, t) ((h + 3) / 4)) (scan w h)) := by unfold dpassS; rw [if_neg (by decide), if_neg (by decide)]
    rw [e0]
    clear e0
    try dsimp only at kS
    generalize dendS ⟨w, h, sN, o, mc, rw0⟩ (bitO bits) my (doffS ⟨w, h, sN, o, mc, rw0⟩ (dclS ⟨w, h, sN, o, mc, rw0⟩ (bitO bits) (q, t) ((h + 3) / 4)) (scan w h)) = e1 at *
    generalize scan w h = L at *
    obtain ⟨e1, yy⟩ := e1
    unfold YB at kS
    simp only at kS
    cases yy
    all_goals
      go_enter Tryd.func104, Tryd.ntmps104
      go_wp2_with (first | (go_at_call 57; (with_reducible refine ks.mono ?_); rintro e wa ⟨rfl, hBa⟩; have HB := Lib.hid (below_call HM.out hBa); have MB := Lib.hid ((Blk.new W 26 #[.bool mb, .bool mr, .bool ms, .bool mc, .bool my]).below hBa); clear hBa) | (go_at_call 27; (with_reducible refine (kk _).mono ?_); rintro e wn ⟨rfl, rfl⟩) | (go_at_call 29; (with_reducible refine (kp _).mono ?_); rintro e wn ⟨rfl, rfl⟩))
      have DB := Lib.hid (below_call HB.out (Below.refl _ _).drew)
      have MD := Lib.hid (MB.out.below (Below.refl _ _).drew)
      obtain ⟨m0, m1, m2, m3, m4⟩ := md MD.out
      go_region_held3 (fun w' => w'.cell? ⟨W.heap.size, 0, none⟩ = some (.bool mb) ∧ w'.cell? ⟨W.heap.size, 1, none⟩ = some (.bool mr) ∧ w'.cell? ⟨W.heap.size, 2, none⟩ = some (.bool ms) ∧ w'.cell? ⟨W.heap.size, 3, none⟩ = some (.bool mc) ∧ w'.cell? ⟨W.heap.size, 4, none⟩ = some (.bool my))
        (first | (with_reducible exact ⟨m0, m1, m2, m3, m4⟩) | (with_reducible exact ⟨n0, n1, n2, n3, n4⟩) | (exact ⟨cell_alloc n0 _, cell_alloc n1 _, cell_alloc n2 _, cell_alloc n3 _, cell_alloc n4 _⟩) | fail)
        (first | (go_simp; go_at_call 28; (with_reducible refine (kr _).mono ?_); rintro e wb ⟨rfl, hBb⟩; have WB := Lib.hid (below_call DB.out hBb); have MC := Lib.hid (MD.out.below hBb); obtain ⟨n0, n1, n2, n3, n4⟩ := md MC.out; have E0 := Lib.hid (HE0.out wb WB.out rw0); clear hBb) | fail)
    all_goals
      generalize wb.alloc (.cells #[.pointer (some ⟨A, 0, none⟩), .int .i64 (sN : Int), .int .i64 o, .bool mb, .bool mr, .bool ms, .bool mc, .bool my, .bool rw0, .pointer (some ⟨S, 0, none⟩)] 133) = W1 at *
      generalize wb.heap.size = g at *
      go_wp2_with (first | (go_at_call 58; (with_reducible refine (kc _).mono ?_); rintro e w1 ⟨s1, c1, rfl, hP, hB⟩; have kE := kS (E0.out.below hB) s1 c1 hP; clear hP hB) | (go_at_call 122; (with_reducible refine kE.mono ?_); rintro e wz ⟨rfl, H2, K2⟩; obtain ⟨v1, v2, v3⟩ := yc_end H2; dsimp only at v1 v2 v3; have V1 := Lib.hid v1; have V2 := Lib.hid v2; have V3 := Lib.hid v3; clear v1 v2 v3 H2 K2))
      go_ret
      exact ⟨rfl, V1.out, V2.out, V3.out⟩
end Go.Proofs.YtbhjapgioaiocaaDoor
set_option maxRecDepth 100000
namespace Go.Proofs.YtbhjapgioaiocaaDoor
open Go.RowKit

/-- The source while its bits are copied. -/
structure Ps (M wr : World) (mv : Array Value) (K S : Nat) (l : List Int) (v : Value) : Prop where
  md : Blk wr K 26 mv
  bx : Blk wr S 124 #[.pointer none, .pointer none, v, .slice none 0 0]
  ow : wr.ownsRow K 3 1 v l.length (intsV l)
  be : Below K M wr
  hS : K ≤ S
  hz : K ≤ M.heap.size
section
variable {M w w1 w2 : World} {mv : Array Value} {K S : Nat} {l : List Int} {v v' : Value}
theorem Ps.below (H : Ps M w mv K S l v) (hb : Below w.heap.size w w1) : Ps M w1 mv K S l v := ⟨H.md.below hb, H.bx.below hb, own2_below H.ow hb, H.be.trans (hb.mono (by have := H.be.size; have := H.hz; omega)), H.hS, H.hz⟩
theorem Ps.grow (H : Ps M w mv K S l v) {b : Int} {X : Obj} (hown : w2.ownsRow K 3 1 v' (l.length + 1) (intsV l ++ [.int .i64 b])) (hg : (w.alloc X).grownBy w2 v.ownBlock) : Ps M (w2.setCell ⟨S, 2, none⟩ v') mv K S (l ++ [b]) v' := by
  have hal := below_alloc (Below.refl _ w) X
  have L2 : Blk w2 S 124 #[.pointer none, .pointer none, v, .slice none 0 0] := (H.bx.alloc X).grown hg (fun he => own_blk_ne H.ow H.bx (by decide) he.symm)
  have hz := H.hz
  have hs := H.be.size
  have h3 := hal.size
  refine ⟨(Below.heap_setCell w2 ⟨S, 2, none⟩ v' K (fun e => H.md.ne H.bx (by decide) e)).trans ((H.md.alloc X).grown hg (fun he => own_blk_ne H.ow H.md (by decide) he.symm)), by have := L2.set 2 v'; simpa using this, ?_, ?_, H.hS, H.hz⟩
  · have hne := own_blk_ne hown L2 (by decide)
    rw [List.length_append, intsV_app]
    exact own2_keep (w1 := w2.setCell ⟨S, 2, none⟩ v') hown fun k hk => Below.heap_setCell w2 ⟨S, 2, none⟩ v' k (fun e => hne (by rw [hk, e]))
  · refine ⟨hg.os.trans H.be.os, hg.tape.trans H.be.tape, hg.output.trans H.be.output, ?_, fun k hk => ?_⟩
    · have h2 := hg.size
      simp [World.setCell]
      omega
    · have hv : some k ≠ v.ownBlock := fun he => by have := (own2_lt H.ow he.symm).1; omega
      have e1 := Below.heap_setCell w2 ⟨S, 2, none⟩ v' k (by have := H.hS; show k ≠ S; omega)
      rw [e1, hg.block k (by omega) hv, hal.block k (by omega)]
      exact H.be.block k hk
theorem Ps.cells (H : Ps M w mv K S l v) : w.cell? ⟨S, 2, none⟩ = some v ∧ (∀ i, w.frozen? ⟨S, i, none⟩ = false) := ⟨H.bx.cell 2, H.bx.free⟩
theorem bits_own {s : Option Addr} {n m : Nat} (h : w.ownsRow K 3 1 (.slice s n m) l.length (intsV l)) : n = l.length ∧ l.length ≤ m ∧ BitsAt w s l := by
  rcases h.2 with ⟨he, h0⟩ | ⟨g, cap, cur, he, hb, hg, hc, hm, hs, ht⟩
  · simp at he
    obtain ⟨rfl, rfl, rfl⟩ := he
    exact ⟨h0.symm, by omega, .inl (List.length_eq_zero_iff.1 h0)⟩
  · simp at he
    obtain ⟨rfl, rfl, rfl⟩ := he
    refine ⟨rfl, hc, .inr ⟨g, 0, cur, rfl, hg, fun k hk => ?_⟩⟩
    rw [Nat.zero_add, ← Array.getElem?_toList]
    have e1 : (cur.toList.take (l.length * 1))[k]? = cur.toList[k]? := by rw [List.getElem?_take]; simp; omega
    rw [← e1, ht]
    unfold intsV
    simp [List.getD, hk]
theorem Ps.src (H : Ps M w mv K S l v) : Src w K S l [] := by
  obtain ⟨s, m, rfl⟩ := own2_slice H.ow
  obtain ⟨-, h2, h3⟩ := bits_own H.ow
  exact ⟨.slice none 0 0, s, m, H.bx, h3, h2, World.ownsRow_nil _ _ _ _⟩
end
theorem yp_frame {Wa W wr wl : World} {C : Nat} (hWa : Wa.heap.size ≤ W.heap.size) (hCw : Wa.heap.size ≤ C) (be : Below Wa.heap.size Wa W) (hb : Below W.heap.size W wr) (hk : Kd [C, W.heap.size + 1] W.heap.size (exR W.heap.size) wr wl) : Below Wa.heap.size Wa wl ∧ Kb [C] W wl := by
  have z1 := hb.size
  have z2 := hk.size
  refine ⟨⟨hk.os.trans (hb.os.trans be.os), hk.tape.trans (hb.tape.trans be.tape), hk.output.trans (hb.output.trans be.output), by have := be.size; omega, fun k h => ?_⟩, ⟨hk.os.trans hb.os, hk.tape.trans hb.tape, hk.output.trans hb.output, by omega, fun k h hf => ?_⟩⟩
  · rw [hk.old k (by omega) (by omega) (by simp; omega), hb.block k (by omega), be.block k h]
  · rw [hk.old k h (by omega) (by simp at hf ⊢; exact ⟨hf, by omega⟩), hb.block k h]
set_option maxHeartbeats 8000000 in
theorem yperf_c {Wa W : World} {B A C w h : Nat} {q : St} (H : Rb W B A C w h q) (hok : ∀ x y, okV (q.v x y)) (hBa : Wa.heap.size ≤ B) (be : Below Wa.heap.size Wa W) (sk : Option Addr) (mk : Nat) (L : List Sy) (hY : HoldsY Wa sk L) (hm : L.length ≤ mk) (hL : L.length ≤ 700000) (k : Nat) (planes o : Int) (m : Mo) (hE : runE (k : Int) planes o = 0) :
    Calls Tryd.prog 76 #[.pointer (some ⟨A, 0, none⟩), .int .i64 (k : Int), .int .i64 planes, .int .i64 o, m.val, .slice sk L.length mk] W fun E W' => E = .returned (.int .i64 (replE (replS w h planes o m q k L))) ∧ (∃ q', Rb W' B A C w h q' ∧ (∀ x y, okV (q'.v x y)) ∧ (replE (replS w h planes o m q k L) = 0 → q' = (replS w h planes o m q k L).1.1)) ∧ Kb [C] W W' := by
  obtain ⟨i0, hi, hz0, hz1, hz2⟩ := info2_parts infoI6
  obtain ⟨mb, mr, ms, mc, my⟩ := m
  unfold Mo.val at *
  have hAC : A < W.heap.size ∧ C < W.heap.size := ⟨H.obj.lt, H.ltC⟩
  have hCw : Wa.heap.size ≤ C := Nat.le_trans hBa H.geC
  have HWa := Lib.hid be.size
  have HBE := Lib.hid be
  have PI := Lib.hid (perf_is w h planes o ⟨mb, mr, ms, mc, my⟩ q k L)
  have HR := Lib.hid (fun (w1 : World) (hb : Below W.heap.size W w1) (hs : Src w1 W.heap.size (W.heap.size + 1) (L.map Prod.snd) []) => yrun_ok (H.below hb) hok hs hb.size hAC.1 hAC.2 (by simp) (k : Int) planes o ⟨mb, mr, ms, mc, my⟩ hE)
  have HOK := Lib.hid (show ∀ x y, okV ((perfS w h planes o ⟨mb, mr, ms, mc, my⟩ q k L).1.1.v x y) from dpass_ok _ _ _ _ (q, []) hok)
  have hwh : w ≤ 64 ∧ h ≤ 64 := by have := H.fit; unfold fits at this; omega
  have HTL := Lib.hid (show (perfS w h planes o ⟨mb, mr, ms, mc, my⟩ q k L).1.2.length ≤ 20000 by
    have h1 := (rch_pass (p := ppR w h (k : Int) planes o ⟨mb, mr, ms, mc, my⟩) (A := bitO (L.map Prod.snd)) (kndP (k : Int)) my (q, []) hwh.1 hwh.2).cnt (f := List.length) (bitO_one _)
    simp only [List.length_nil, Nat.zero_add] at h1
    exact h1)
  have HCW := Lib.hid hCw
  have HY := Lib.hid hY
  have HL := Lib.hid hL
  have HM := Lib.hid hm
  have S0 : Ps W ((W.alloc (.cells #[.bool mb, .bool mr, .bool ms, .bool mc, .bool my] 26)).alloc (.cells #[.pointer none, .pointer none, .slice none 0 0, .slice none 0 0] 124)) #[.bool mb, .bool mr, .bool ms, .bool mc, .bool my] W.heap.size (W.heap.size + 1) [] (.slice none 0 0) := by
    have b1 := below_alloc (Below.refl _ W) (.cells #[.bool mb, .bool mr, .bool ms, .bool mc, .bool my] 26)
    have k1 := Blk.new (W.alloc (.cells #[.bool mb, .bool mr, .bool ms, .bool mc, .bool my] 26)) 124 #[.pointer none, .pointer none, .slice none 0 0, .slice none 0 0]
    rw [alloc_size] at k1
    exact ⟨(Blk.new W 26 _).alloc _, k1, World.ownsRow_nil _ _ _ _, below_alloc b1 _, by omega, Nat.le_refl _⟩
  have HS0 := Lib.hid S0
  generalize hPF : perfS w h planes o ⟨mb, mr, ms, mc, my⟩ q k L = pf at *
  have HR2 := Lib.hid (show ∀ (w1 : World), Below W.heap.size W w1 → Src w1 W.heap.size (W.heap.size + 1) (L.map Prod.snd) [] → Calls Tryd.prog 104 #[.pointer (some ⟨A, 0, none⟩), .int .i64 (k : Int), .int .i64 planes, .int .i64 o, .agg #[.bool mb, .bool mr, .bool ms, .bool mc, .bool my], .pointer (some ⟨W.heap.size + 1, 0, none⟩)] w1 (YRg w1 B A C W.heap.size (W.heap.size + 1) w h (L.map Prod.snd) pf) by rw [← hPF]; exact HR.out)
  clear H hY hL hm S0 HR hPF hE hok hBa be hCw hAC hwh
  generalize replS w h planes o ⟨mb, mr, ms, mc, my⟩ q k L = rp at *
  go_enter Tryd.func76, Tryd.ntmps76
  go_wp2_with fail
  go_loopw [23] (fun i wr => ∃ (j : Nat) (v : Value), j ≤ L.length ∧ i = .int .i64 (j : Int) ∧ Hid (Ps W wr #[.bool mb, .bool mr, .bool ms, .bool mc, .bool my] W.heap.size (W.heap.size + 1) ((L.map Prod.snd).take j) v)) (fun i _ => (L.length - (intOf i).toNat))
  case atStart => exact ⟨0, _, by omega, rfl, HS0.out⟩
  case round =>
    obtain ⟨j, v, hj, rfl, hP⟩ := hrel
    by_cases hlt : j < L.length
    · obtain ⟨b, off, rfl, p0, p1⟩ := (HY.out.call HBE.out).at hlt
      have p0 := (hP.out.be.cell (p := ⟨b, _, none⟩) (cell_lt p0)).trans p0
      have p1 := (hP.out.be.cell (p := ⟨b, _, none⟩) (cell_lt p1)).trans p1
      have hn : (L.map Prod.snd).take (j + 1) = (L.map Prod.snd).take j ++ [L[j].2] := by rw [List.take_add_one]; simp [hlt]
      have hlen : ((L.map Prod.snd).take j).length = j := by rw [List.length_take, List.length_map]; omega
      generalize (L.map Prod.snd).take j = l at *
      generalize L[j].1 = c at *
      generalize L[j].2 = bt at *
      have wk : IntKind.i64.wrap ((j : Int) + 1) = ((j + 1 : Nat) : Int) := by have := HL.out; rw [IntWalk.i64_left]; unfold wrap64; omega
      obtain ⟨c2, fz⟩ := hP.out.cells
      subst hlen
      go_wp2_with fail
      have P1 := Lib.hid ((hP.out.below (below_alloc (Below.refl _ wr) (.cells #[.int .i64 c, .int .i64 bt] 52))).below (Below.refl _ _).drew)
      have kx := (Blk.new wr 52 #[.int .i64 c, .int .i64 bt]).below (Below.refl _ (wr.alloc (.cells #[.int .i64 c, .int .i64 bt] 52))).drew
      have x1 := kx.cell 1
      clear p0 p1 c2 fz kx hP
      generalize wr.alloc (.cells #[.int .i64 c, .int .i64 bt] 52) = W1 at *
      generalize wr.heap.size = g at *
      obtain ⟨c2, fz⟩ := P1.out.cells
      have HG := Lib.hid (fun (v' : Value) (X : Obj) (w2 : World) (ho : w2.ownsRow W.heap.size 3 1 v' (l.length + 1) (intsV l ++ [.int .i64 bt])) (hg : (W1.drew.alloc X).grownBy w2 v.ownBlock) => (⟨P1.out.grow ho hg, ((P1.out.bx.alloc X).grown hg (fun he => own_blk_ne P1.out.ow P1.out.bx (by decide) he.symm)).cell 2, ((P1.out.bx.alloc X).grown hg (fun he => own_blk_ne P1.out.ow P1.out.bx (by decide) he.symm)).free⟩ : Ps W (w2.setCell ⟨W.heap.size + 1, 2, none⟩ v') #[.bool mb, .bool mr, .bool ms, .bool mc, .bool my] W.heap.size (W.heap.size + 1) (l ++ [bt]) v' ∧ w2.cell? ⟨W.heap.size + 1, 2, none⟩ = some v ∧ ∀ i, w2.frozen? ⟨W.heap.size + 1, i, none⟩ = false))
      have HOW := Lib.hid (fun X : Obj => own2_below P1.out.ow ((Below.refl _ W1.drew).alloc (Nat.le_refl _) X))
      have hsz : W.heap.size ≤ W1.drew.heap.size := by have := P1.out.be.size; exact this
      have c2a := fun X => cell_alloc (show W1.cell? ⟨W.heap.size + 1, 2, none⟩ = some v from c2) X
      have hl7 : l.length ≤ 700000 := by have := HL.out; omega
      go_region_law (first | (refine step_append_own rfl (.tmp 31) (.tmp 34) 22 rfl W.heap.size 3 i0 (.int .i64 0) 1 8 Tryd.underlying22 hi hz0 hz1 hz2 rfl (by decide) _ l.length _ rfl (HOW.out _) ⟨W1.heap.size, 0, none⟩ 1 1 [.int .i64 bt] rfl rfl (cell_one_new _ _ _) (by intro u hu; simp at hu; subst hu; rfl) (by unfold maxLen; omega) (by omega) (by simp; have h2 : W1.drew.heap.size = W1.heap.size := rfl; omega) ?_; intro v' w2 hown hgrow; obtain ⟨s6, m6, rfl⟩ := own2_slice hown; obtain ⟨p2, d1, d2⟩ := HG.out _ _ _ hown hgrow; have P2 := Lib.hid p2; clear p2 hown hgrow; go_wp2_with fail) | fail)
      all_goals
        clear c2 c2a fz x1 d1 d2
        go_wp2_with fail
        go_roundw
        case rel => exact ⟨l.length + 1, _, by omega, by go_num, by rw [hn]; exact P2⟩
        case measure => simp [intOf]; omega
    · obtain rfl : j = L.length := by omega
      rw [List.take_of_length_le (by simp)] at hP
      obtain ⟨m0, m1, m2, m3, m4⟩ := md hP.out.md
      have kr := HR2.out wr hP.out.be hP.out.src
      have KB := Lib.hid hP.out.be
      clear HR2 hj hlt
      unfold YRg at kr
      obtain ⟨⟨qf, tf⟩, yf⟩ := pf
      simp only at kr PI HOK HTL
      obtain ⟨e0, he0⟩ : ∃ z : Int, z = if yf = true then 0 else 16 := ⟨_, rfl⟩
      rw [← he0] at kr
      have HE0 := Lib.hid he0
      clear he0
      go_wp2_with (first | (go_at_call 104; (with_reducible refine kr.mono ?_); rintro e wl ⟨rfl, hR, hS, hK⟩; have RL := Lib.hid hR; have KL := Lib.hid hK; obtain ⟨vv, sb2, mb2, s1, -, -, s2⟩ := hS; obtain ⟨s5, m5, rfl⟩ := own2_slice s2; have c3 : wl.cell? ⟨W.heap.size + 1, 3, none⟩ = some (.slice s5 tf.length m5) := s1.cell 3; have HT := Lib.hid (own_holdsY s2).2; have HSB := Lib.hid s1; clear hR hK s2 s1))
      have FR := yp_frame HWa.out HCW.out HBE.out hP.out.be KL.out
      have HYL := Lib.hid (HY.out.call FR.1)
      have HKB := Lib.hid FR.2
      have FE := Lib.hid (fun (w' : World) (hb : Below wl.heap.size wl w') (hz : replE rp = 0 → qf = rp.1.1) => (⟨⟨qf, RL.out.below hb, HOK.out, hz⟩, HKB.out.trans (Kb.of_below _ hb)⟩ : (∃ q', Rb w' B A C w h q' ∧ (∀ x y, okV (q'.v x y)) ∧ (replE rp = 0 → q' = rp.1.1)) ∧ Kb [C] W w'))
      clear c3 hP KL kr m0 m1 m2 m3 m4 FR HY HL HS0
      obtain ⟨Wo, rfl⟩ : ∃ Wo, Wo = wr := ⟨_, rfl⟩
      go_loopw [51] (fun i wr => ∃ j : Nat, j ≤ tf.length ∧ i = .int .i64 (j : Int) ∧ Hid (∀ (i : Nat) (b : Sy), i < j → tf[i]? = some b → ∃ a, L[i]? = some a ∧ fitQ a b.1) ∧ Hid (Below wl.heap.size wl wr)) (fun i _ => (tf.length - (intOf i).toNat))
      case atStart => exact ⟨0, by omega, rfl, fun i b h => by omega, Below.refl _ _⟩
      case round =>
        obtain ⟨j, hj, rfl, hG, hB⟩ := hrel
        by_cases hlt : j < tf.length
        · obtain ⟨b2, off2, rfl, p0, p1⟩ := (HT.out.call hB.out).at hlt
          have HJ := Lib.hid (show tf[j]? = some tf[j] from List.getElem?_eq_getElem hlt)
          generalize tf[j] = tj at *
          obtain ⟨c, bt⟩ := tj
          simp only at p0 p1
          have wk : IntKind.i64.wrap ((j : Int) + 1) = ((j + 1 : Nat) : Int) := by have := HTL.out; rw [IntWalk.i64_left]; unfold wrap64; omega
          have HLT := Lib.hid hlt
          by_cases hjL : j < L.length
          · obtain ⟨b, off, rfl, q0, q1⟩ := (HYL.out.call hB.out).at hjL
            have HLJ := Lib.hid (show L[j]? = some L[j] from List.getElem?_eq_getElem hjL)
            generalize L[j] = lj at *
            obtain ⟨c', b'⟩ := lj
            simp only at q0 q1
            have bad : ¬ fitQ (c', b') c → replE rp = 8 := fun hn => PI.out.1 ⟨j, (c, bt), HJ.out, fun a ha => by rw [HLJ.out] at ha; cases ha; exact hn⟩
            have hjm : j < mk := by have := HM.out; omega
            clear hlt
            by_cases hcc : c' = c
            · have hcc2 := hcc.symm
              subst hcc2
              by_cases hb0 : b' = 0
              · subst hb0
                clear bad HYL HT HM
                go_wp2_with fail
                have B2 := Lib.hid (below_call hB.out (below_alloc (Below.refl _ wr) (.cells #[.int .i64 c, .int .i64 bt] 52)))
                have kx := Blk.new wr 52 #[.int .i64 c, .int .i64 bt]
                have x0 : (wr.alloc (.cells #[.int .i64 c, .int .i64 bt] 52)).cell? ⟨wr.heap.size, 0, none⟩ = some (.int .i64 c) := kx.cell 0
                have q0 := cell_alloc q0 (.cells #[.int .i64 c, .int .i64 bt] 52)
                have q1 := cell_alloc q1 (.cells #[.int .i64 c, .int .i64 bt] 52)
                clear kx p0 p1 hB
                generalize wr.alloc (.cells #[.int .i64 c, .int .i64 bt] 52) = W1 at *
                generalize wr.heap.size = g at *
                have hge2 : decide (L.length ≤ j) = false := decide_eq_false (by omega)
                go_quiet (fail)
                go_wp2_with fail
                go_roundw
                case rel =>
                  refine ⟨j + 1, HLT.out, by go_num, fun i b hi hb => ?_, below_call B2.out (drewN_below W1 nq)⟩
                  rcases Nat.lt_or_ge i j with h | h
                  · exact hG.out i b h hb
                  · obtain rfl : i = j := by omega
                    rw [HJ.out] at hb
                    cases hb
                    exact ⟨_, HLJ.out, rfl, .inl rfl⟩
                case measure => have := HLT.out; simp [intOf]; omega
              · by_cases hb1 : b' = 1
                · subst hb1
                  clear bad HYL HT HM
                  go_wp2_with fail
                  have B2 := Lib.hid (below_call hB.out (below_alloc (Below.refl _ wr) (.cells #[.int .i64 c, .int .i64 bt] 52)))
                  have kx := Blk.new wr 52 #[.int .i64 c, .int .i64 bt]
                  have x0 : (wr.alloc (.cells #[.int .i64 c, .int .i64 bt] 52)).cell? ⟨wr.heap.size, 0, none⟩ = some (.int .i64 c) := kx.cell 0
                  have q0 := cell_alloc q0 (.cells #[.int .i64 c, .int .i64 bt] 52)
                  have q1 := cell_alloc q1 (.cells #[.int .i64 c, .int .i64 bt] 52)
                  clear kx p0 p1 hB
                  generalize wr.alloc (.cells #[.int .i64 c, .int .i64 bt] 52) = W1 at *
                  generalize wr.heap.size = g at *
                  have hge2 : decide (L.length ≤ j) = false := decide_eq_false (by omega)
                  go_quiet (fail)
                  go_wp2_with fail
                  go_roundw
                  case rel =>
                    refine ⟨j + 1, HLT.out, by go_num, fun i b hi hb => ?_, below_call B2.out (drewN_below W1 nq)⟩
                    rcases Nat.lt_or_ge i j with h | h
                    · exact hG.out i b h hb
                    · obtain rfl : i = j := by omega
                      rw [HJ.out] at hb
                      cases hb
                      exact ⟨_, HLJ.out, rfl, .inr rfl⟩
                  case measure => have := HLT.out; simp [intOf]; omega
                · have hbd := bad (fun hf => hf.2.elim hb0 hb1)
                  have HBD := Lib.hid hbd
                  clear hbd
                  have e2 : (b' != 0) = true := by simp [hb0]
                  have e3 : (b' != 1) = true := by simp [hb1]
                  clear bad HYL HT HM hG
                  go_wp2_with fail
                  have B2 := Lib.hid (below_call hB.out (below_alloc (Below.refl _ wr) (.cells #[.int .i64 c, .int .i64 bt] 52)))
                  have kx := Blk.new wr 52 #[.int .i64 c, .int .i64 bt]
                  have x0 : (wr.alloc (.cells #[.int .i64 c, .int .i64 bt] 52)).cell? ⟨wr.heap.size, 0, none⟩ = some (.int .i64 c) := kx.cell 0
                  have q0 := cell_alloc q0 (.cells #[.int .i64 c, .int .i64 bt] 52)
                  have q1 := cell_alloc q1 (.cells #[.int .i64 c, .int .i64 bt] 52)
                  clear kx p0 p1 hB
                  generalize wr.alloc (.cells #[.int .i64 c, .int .i64 bt] 52) = W1 at *
                  generalize wr.heap.size = g at *
                  have hge2 : decide (L.length ≤ j) = false := decide_eq_false (by omega)
                  go_quiet (fail)
                  go_wp2_with fail
                  go_ret
                  have B3 := below_call B2.out (drewN_below W1 nq)
                  exact ⟨by rw [HBD.out]; rfl, (FE.out _ B3 (fun h => by have := HBD.out; omega))⟩
            · have hbd := bad (fun hf => hcc hf.1)
              have HBD := Lib.hid hbd
              clear hbd
              have e1 : (c' != c) = true := by simp [hcc]
              clear bad HYL HT HM hG
              go_wp2_with fail
              have B2 := Lib.hid (below_call hB.out (below_alloc (Below.refl _ wr) (.cells #[.int .i64 c, .int .i64 bt] 52)))
              have kx := Blk.new wr 52 #[.int .i64 c, .int .i64 bt]
              have x0 : (wr.alloc (.cells #[.int .i64 c, .int .i64 bt] 52)).cell? ⟨wr.heap.size, 0, none⟩ = some (.int .i64 c) := kx.cell 0
              have q0 := cell_alloc q0 (.cells #[.int .i64 c, .int .i64 bt] 52)
              have q1 := cell_alloc q1 (.cells #[.int .i64 c, .int .i64 bt] 52)
              clear kx p0 p1 hB
              generalize wr.alloc (.cells #[.int .i64 c, .int .i64 bt] 52) = W1 at *
              generalize wr.heap.size = g at *
              have hge2 : decide (L.length ≤ j) = false := decide_eq_false (by omega)
              go_quiet (fail)
              go_wp2_with fail
              go_ret
              have B3 := below_call B2.out (drewN_below W1 nq)
              exact ⟨by rw [HBD.out]; rfl, (FE.out _ B3 (fun h => by have := HBD.out; omega))⟩
          · have hbd := PI.out.1 ⟨j, (c, bt), HJ.out, fun a ha => by rw [List.getElem?_eq_none (by omega)] at ha; cases ha⟩
            have HBD := Lib.hid hbd
            clear hbd
            clear hlt HYL HT HM hG
            go_wp2_with fail
            have B2 := Lib.hid (below_call hB.out (below_alloc (Below.refl _ wr) (.cells #[.int .i64 c, .int .i64 bt] 52)))
            clear p0 p1 hB
            generalize wr.alloc (.cells #[.int .i64 c, .int .i64 bt] 52) = W1 at *
            generalize wr.heap.size = g at *
            have hge2 : decide (L.length ≤ j) = true := decide_eq_true (by omega)
            go_quiet (fail)
            go_wp2_with fail
            go_ret
            have B3 := below_call B2.out (drewN_below W1 nq)
            exact ⟨by rw [HBD.out]; rfl, (FE.out _ B3 (fun h => by have := HBD.out; omega))⟩
        · obtain rfl : j = tf.length := by omega
          have hnb : ¬ badT L tf := fun ⟨i, b, h1, h2⟩ => by
            obtain ⟨a, ha, hf⟩ := hG.out i b (List.getElem?_eq_some_iff.1 h1).1 h1
            exact h2 a ha hf
          obtain ⟨-, P2, P3, P4⟩ := PI.out
          have P2 := Lib.hid (P2 hnb)
          have P3 := Lib.hid (P3 hnb)
          have P4 := Lib.hid (P4 hnb)
          have c3 : wr.cell? ⟨W.heap.size + 1, 3, none⟩ = some (.slice s5 tf.length m5) := (HSB.out.below hB.out).cell 3
          have HE1 := HE0.out
          clear hG hnb HYL HT HM HTL hj hlt HE0 HSB
          generalize tf.length = nt at *
          generalize L.length = nL at *
          cases yf with
          | false =>
            rw [if_neg (by decide)] at HE1
            subst HE1
            have hbd := P3.out rfl
            have HBD := Lib.hid hbd
            clear hbd
            clear P2 P3 P4
            go_wp2_with fail
            go_ret
            exact ⟨by rw [HBD.out]; rfl, (FE.out _ hB.out (fun h => by have := HBD.out; omega))⟩
          | true =>
            rw [if_pos rfl] at HE1
            subst HE1
            by_cases hll : nt < nL
            · have hbd := P2.out rfl hll
              have HBD := Lib.hid hbd
              clear hbd
              have hd : decide (nt < nL) = true := decide_eq_true hll
              clear P2 P3 P4
              go_wp2_with fail
              go_ret
              exact ⟨by rw [HBD.out]; rfl, (FE.out _ hB.out (fun h => by have := HBD.out; omega))⟩
            · obtain ⟨hbd, hq⟩ := P4.out rfl hll
              have HBD := Lib.hid hbd
              have HQ := Lib.hid hq
              clear hbd hq
              have hd : decide (nt < nL) = false := decide_eq_false hll
              clear P2 P3 P4
              go_wp2_with fail
              go_ret
              exact ⟨by rw [HBD.out]; rfl, (FE.out _ hB.out (fun _ => HQ.out.symm))⟩
end Go.Proofs.YtbhjapgioaiocaaDoor
