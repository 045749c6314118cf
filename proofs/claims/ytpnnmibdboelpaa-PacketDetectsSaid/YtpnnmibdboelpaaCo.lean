/-
  Layer 27: contract of Frame, code.
-/
import Derived.Test.YtpnnmibdboelpaaCn
set_option maxRecDepth 100000
namespace Go.Proofs.Ytpnnmibdboelpaa
open Go.RowKit

structure Fr where
  q : Int
  f : Int
  t : Int
  e : Int
def fr (bs : List Int) (a : Int) : Fr :=
  if (rm bs a).e ≠ 0 then ⟨0, 0, 0, (rm bs a).e⟩
  else if (rt bs a.toNat (rm bs a).n (rm bs a).c).e ≠ 0 then ⟨0, 0, 0, (rt bs a.toNat (rm bs a).n (rm bs a).c).e⟩
  else ⟨(rm bs a).q, (rt bs a.toNat (rm bs a).n (rm bs a).c).f, (rt bs a.toNat (rm bs a).n (rm bs a).c).t, 0⟩
theorem rt_err (bs : List Int) (A : Nat) (n c : Int) (h : (rt bs A n c).e ≠ 0) : (rt bs A n c).f = 0 ∧ (rt bs A n c).t = 0 := by
  unfold rt at *
  split at h
  · simp [*]
  · rename_i h1
    split at h
    · rename_i h2; simp [h1, h2]
    · exact absurd rfl h
theorem rm_ok {bs : List Int} {a : Int} (hB : Mk.bytes bs) (h : (rm bs a).e = 0) : ∃ A : Nat, a = A ∧ A + 11 ≤ bs.length ∧ (0 ≤ (rm bs a).n ∧ (rm bs a).n < 4294967296) ∧ (0 ≤ (rm bs a).q ∧ (rm bs a).q < 65536) := by
  rcases rm_cases bs a with ⟨_, e⟩ | ⟨_, _, e⟩ | ⟨_, _, _, e⟩ | ⟨A, rfl, hA, hc⟩
  · rw [e] at h; simp at h
  · rw [e] at h; simp at h
  · rw [e] at h; simp at h
  · refine ⟨A, rfl, hA, ?_⟩
    rcases hc with ⟨_, e⟩ | ⟨_, _, e⟩ | ⟨_, _, e⟩
    · rw [e] at h; simp at h
    · rw [e] at h; simp at h
    · rw [e]
      have h4 := Mk.num_bd (sub_bytes hB A 4 4)
      have h2 := Mk.num_bd (sub_bytes hB A 2 2)
      rw [sub_len (by omega)] at h4 h2
      exact ⟨⟨h4.1, by have := h4.2; simpa using this⟩, ⟨h2.1, by have := h2.2; simpa using this⟩⟩
theorem results_tst {fn : Func} {r p u : Tmp} (h : fn.results = #[.tmp r, .cell p 36, .tmp u]) (tmps : Array Value) {W : World} {g : Nat} {a b x y : Value} (hr : tmps.getD r undef = y) (hp : tmps.getD p undef = .pointer (some ⟨g, 0, none⟩)) (hu : tmps.getD u undef = x) (B : Blk W g 36 #[a, b]) :
    (results fn tmps).run Try.prog W = .ok (.tuple #[y, .agg #[a, b], x]) W := by
  have e0 : (results fn tmps).run Try.prog W = ((asAddr (tmps.getD p undef)).run Try.prog W).andThen fun a w₁ => ((loadVar 36 a).run Try.prog w₁).andThen fun v w₂ => .ok (.tuple #[tmps.getD r undef, v, tmps.getD u undef]) w₂ := by
    simp only [results, h]
    simp [Sem.run_bind, Result.andThen]
  rw [e0, hp, hu, hr]
  have e : (asAddr (.pointer (some ⟨g, 0, none⟩))).run Try.prog W = .ok (⟨g, 0, none⟩ : Addr) W := rfl
  rw [e]
  simp only [Result.andThen]
  rw [load_span B]
def GivesFr (r : Fr) (w : World) (e : Ending) (w' : World) : Prop := e = .returned (.tuple #[.int .i64 r.q, .agg #[.int .i64 r.f, .int .i64 r.t], .int .i64 r.e]) ∧ Below w.heap.size w w'
set_option maxHeartbeats 2000000 in
theorem frame_c (bs : List Int) (s : Option Addr) (m : Nat) (a : Int) (w : World) (hH : HoldsB w s bs) (hB : Mk.bytes bs) (hm : bs.length ≤ m) (hl : bs.length ≤ 1000000) :
    Calls Try.prog 14 #[.slice s bs.length m, .int .i64 a] w (GivesFr (fr bs a) w) := by
  obtain ⟨W0, hW0⟩ : ∃ W0, W0 = w.alloc (.cells #[.int .i64 0, .int .i64 0] 36) := ⟨_, rfl⟩
  have HB := Lib.hid (show Below w.heap.size w W0 by rw [hW0]; exact (Below.refl _ _).alloc (Nat.le_refl _) _)
  have HK := Lib.hid (show Blk W0 w.heap.size 36 #[.int .i64 0, .int .i64 0] by rw [hW0]; exact Blk.new _ _ _)
  have HZ := Lib.hid (show W0.heap.size = w.heap.size + 1 by rw [hW0]; simp)
  have HW0 := Lib.hid hW0
  have HH := Lib.hid (hH.call HB.out)
  have ko := readMark_c bs s m a W0 HH.out hB hm hl
  clear hH hW0
  by_cases h : (rm bs a).e = 0
  · obtain ⟨A, rfl, hA, hn, hq⟩ := rm_ok hB h
    have kt := fun w1 (hw1 : Below W0.heap.size W0 w1) => rest_c bs s m A (rm bs A).q (rm bs A).n (rm bs A).c w1 (HH.out.call hw1) hB hm hl hA hn
    have F0 : ∀ a b : Fr, a = b → fr bs A = a → fr bs A = b := fun a b e h => e ▸ h
    have e : fr bs A = if (rt bs A (rm bs A).n (rm bs A).c).e ≠ 0 then ⟨0, 0, 0, (rt bs A (rm bs A).n (rm bs A).c).e⟩
        else ⟨(rm bs A).q, (rt bs A (rm bs A).n (rm bs A).c).f, (rt bs A (rm bs A).n (rm bs A).c).t, 0⟩ := by unfold fr; rw [if_neg (fun z => z h)]; rfl
    have er := rt_err bs A (rm bs A).n (rm bs A).c
    rw [e]; clear e F0 hn hq
    generalize rt bs A (rm bs A).n (rm bs A).c = T at *
    generalize rm bs A = R at *
    obtain ⟨Q, N, C, E⟩ := R
    obtain rfl : E = 0 := h
    obtain ⟨F, T, E⟩ := T
    replace er := er
    simp only at er kt ⊢
    by_cases h2 : E = 0
    · subst h2
      clear er
      rw [if_neg (fun z => z rfl)]
      go_enter Try.func14, Try.ntmps14
      go_upto_region 1 with fail
      rw [← HW0.out]
      go_upto_region 4 with (first | (go_at_call 24; (with_reducible refine ko.mono ?_); rintro e w1 ⟨rfl, hw1⟩; have Hw1 := Lib.hid hw1; clear hw1) | fail)
      have HB2 := Lib.hid (show Below w.heap.size w (w1.alloc (Obj.cells #[Value.int IntKind.i64 Q, Value.int IntKind.i64 N, Value.int IntKind.i64 C] 62)) from (HB.out.trans (Hw1.out.mono HB.out.size)).alloc (HB.out.trans (Hw1.out.mono HB.out.size)).size _)
      have HK2 := Lib.hid (show Blk (w1.alloc (Obj.cells #[Value.int IntKind.i64 Q, Value.int IntKind.i64 N, Value.int IntKind.i64 C] 62)) w.heap.size 36 #[.int .i64 0, .int .i64 0] from (HK.out.below Hw1.out).alloc _)
      have HM2 := Lib.hid (show Blk (w1.alloc (Obj.cells #[Value.int IntKind.i64 Q, Value.int IntKind.i64 N, Value.int IntKind.i64 C] 62)) w1.heap.size 62 #[.int .i64 Q, .int .i64 N, .int .i64 C] from Blk.new _ _ _)
      have HL2 := Lib.hid (show w.heap.size < (w1.alloc (Obj.cells #[Value.int IntKind.i64 Q, Value.int IntKind.i64 N, Value.int IntKind.i64 C] 62)).heap.size ∧ w1.heap.size < (w1.alloc (Obj.cells #[Value.int IntKind.i64 Q, Value.int IntKind.i64 N, Value.int IntKind.i64 C] 62)).heap.size by
        have h1 := HZ.out; have h2 := Hw1.out.size; simp; omega)
      replace kt := kt (w1.alloc (Obj.cells #[Value.int IntKind.i64 Q, Value.int IntKind.i64 N, Value.int IntKind.i64 C] 62)) (Hw1.out.alloc Hw1.out.size _)
      generalize (w1.alloc (Obj.cells #[Value.int IntKind.i64 Q, Value.int IntKind.i64 N, Value.int IntKind.i64 C] 62)) = W2 at *
      generalize w1.heap.size = g at *
      obtain ⟨m0, m1, m2⟩ := HM2.out.three
      go_upto_region 7 with (first | (go_at_call 25; (with_reducible refine kt.mono ?_); rintro e w3 ⟨rfl, hw3⟩; have Hw3 := Lib.hid hw3; clear hw3; have HK3 := Lib.hid (HK2.out.below Hw3.out); have d0 := HK3.out.two'.1; have d1 := HK3.out.two'.2; have f0 := HK3.out.free 0; have f1 := HK3.out.free 1) | fail)
      have HN := Lib.hid (show g ≠ w.heap.size from fun z => by have := HM2.out.ne HK2.out (by decide); omega)
      have HB4 := Lib.hid (show Below w.heap.size w ((w3.setCell ⟨w.heap.size, 0, none⟩ (.int .i64 F)).setCell ⟨w.heap.size, 1, none⟩ (.int .i64 T)) from ((HB2.out.trans (Hw3.out.mono HB2.out.size)).setCell (Nat.le_refl _) _).setCell (Nat.le_refl _) _)
      have HK4 := Lib.hid (show Blk ((w3.setCell ⟨w.heap.size, 0, none⟩ (.int .i64 F)).setCell ⟨w.heap.size, 1, none⟩ (.int .i64 T)) w.heap.size 36 #[.int .i64 F, .int .i64 T] from HK3.out.set2 _ _)
      have HM4 := Lib.hid (show Blk ((w3.setCell ⟨w.heap.size, 0, none⟩ (.int .i64 F)).setCell ⟨w.heap.size, 1, none⟩ (.int .i64 T)) g 62 #[.int .i64 Q, .int .i64 N, .int .i64 C] from ((HM2.out.below Hw3.out).far HN.out _).far HN.out _)
      generalize (w3.setCell ⟨w.heap.size, 0, none⟩ (.int .i64 F)).setCell ⟨w.heap.size, 1, none⟩ (.int .i64 T) = W4 at *
      clear d0 d1 f0 f1 m0 m1 m2
      have c0 := HK4.out.two'.1
      have c1 := HK4.out.two'.2
      have c2 := HM4.out.three.1
      have f0 := HK4.out.free 0
      have f1 := HK4.out.free 1
      go_region
      go_wp2_with fail
      refine bodyPost_ret (results_tst rfl _ rfl rfl rfl (HK4.out.set2 _ _).drew) rfl ?_
      exact ⟨rfl, ((HB4.out.setCell (Nat.le_refl _) _).setCell (Nat.le_refl _) _).drew⟩
    · obtain ⟨rfl, rfl⟩ := er h2
      rw [if_pos h2]
      have b2 : (E != 0) = true := by simpa using h2
      clear er
      go_enter Try.func14, Try.ntmps14
      go_upto_region 1 with fail
      rw [← HW0.out]
      go_upto_region 4 with (first | (go_at_call 24; (with_reducible refine ko.mono ?_); rintro e w1 ⟨rfl, hw1⟩; have Hw1 := Lib.hid hw1; clear hw1) | fail)
      have HB2 := Lib.hid (show Below w.heap.size w (w1.alloc (Obj.cells #[Value.int IntKind.i64 Q, Value.int IntKind.i64 N, Value.int IntKind.i64 C] 62)) from (HB.out.trans (Hw1.out.mono HB.out.size)).alloc (HB.out.trans (Hw1.out.mono HB.out.size)).size _)
      have HK2 := Lib.hid (show Blk (w1.alloc (Obj.cells #[Value.int IntKind.i64 Q, Value.int IntKind.i64 N, Value.int IntKind.i64 C] 62)) w.heap.size 36 #[.int .i64 0, .int .i64 0] from (HK.out.below Hw1.out).alloc _)
      have HM2 := Lib.hid (show Blk (w1.alloc (Obj.cells #[Value.int IntKind.i64 Q, Value.int IntKind.i64 N, Value.int IntKind.i64 C] 62)) w1.heap.size 62 #[.int .i64 Q, .int .i64 N, .int .i64 C] from Blk.new _ _ _)
      have HL2 := Lib.hid (show w.heap.size < (w1.alloc (Obj.cells #[Value.int IntKind.i64 Q, Value.int IntKind.i64 N, Value.int IntKind.i64 C] 62)).heap.size ∧ w1.heap.size < (w1.alloc (Obj.cells #[Value.int IntKind.i64 Q, Value.int IntKind.i64 N, Value.int IntKind.i64 C] 62)).heap.size by
        have h1 := HZ.out; have h2 := Hw1.out.size; simp; omega)
      replace kt := kt (w1.alloc (Obj.cells #[Value.int IntKind.i64 Q, Value.int IntKind.i64 N, Value.int IntKind.i64 C] 62)) (Hw1.out.alloc Hw1.out.size _)
      generalize (w1.alloc (Obj.cells #[Value.int IntKind.i64 Q, Value.int IntKind.i64 N, Value.int IntKind.i64 C] 62)) = W2 at *
      generalize w1.heap.size = g at *
      obtain ⟨m0, m1, m2⟩ := HM2.out.three
      go_upto_region 6 with (first | (go_at_call 25; (with_reducible refine kt.mono ?_); rintro e w3 ⟨rfl, hw3⟩; have Hw3 := Lib.hid hw3; clear hw3; have HK3 := Lib.hid (HK2.out.below Hw3.out); have d0 := HK3.out.two'.1; have d1 := HK3.out.two'.2; have f0 := HK3.out.free 0; have f1 := HK3.out.free 1) | fail)
      have HN := Lib.hid (show g ≠ w.heap.size from fun z => by have := HM2.out.ne HK2.out (by decide); omega)
      have HB4 := Lib.hid (show Below w.heap.size w ((w3.setCell ⟨w.heap.size, 0, none⟩ (.int .i64 0)).setCell ⟨w.heap.size, 1, none⟩ (.int .i64 0)) from ((HB2.out.trans (Hw3.out.mono HB2.out.size)).setCell (Nat.le_refl _) _).setCell (Nat.le_refl _) _)
      have HK4 := Lib.hid (show Blk ((w3.setCell ⟨w.heap.size, 0, none⟩ (.int .i64 0)).setCell ⟨w.heap.size, 1, none⟩ (.int .i64 0)) w.heap.size 36 #[.int .i64 0, .int .i64 0] from HK3.out.set2 _ _)
      have HM4 := Lib.hid (show Blk ((w3.setCell ⟨w.heap.size, 0, none⟩ (.int .i64 0)).setCell ⟨w.heap.size, 1, none⟩ (.int .i64 0)) g 62 #[.int .i64 Q, .int .i64 N, .int .i64 C] from ((HM2.out.below Hw3.out).far HN.out _).far HN.out _)
      generalize (w3.setCell ⟨w.heap.size, 0, none⟩ (.int .i64 0)).setCell ⟨w.heap.size, 1, none⟩ (.int .i64 0) = W4 at *
      clear d0 d1 f0 f1 m0 m1 m2
      have c0 := HK4.out.two'.1
      have c1 := HK4.out.two'.2
      have c2 := HM4.out.three.1
      have f0 := HK4.out.free 0
      have f1 := HK4.out.free 1
      go_region
      go_wp2_with fail
      refine bodyPost_ret (results_tst rfl _ rfl rfl rfl (HK4.out.set2 _ _).drew) rfl ?_
      exact ⟨rfl, ((HB4.out.setCell (Nat.le_refl _) _).setCell (Nat.le_refl _) _).drew⟩
  · have e : fr bs a = ⟨0, 0, 0, (rm bs a).e⟩ := by unfold fr; rw [if_pos h]
    rw [e]; clear e
    generalize rm bs a = R at *
    have b2 : (R.e != 0) = true := by simpa using h
    go_enter Try.func14, Try.ntmps14
    go_upto_region 1 with fail
    rw [← HW0.out]
    go_upto_region 3 with (first | (go_at_call 24; (with_reducible refine ko.mono ?_); rintro e w1 ⟨rfl, hw1⟩; have Hw1 := Lib.hid hw1; clear hw1) | fail)
    have HB2 := Lib.hid (show Below w.heap.size w (w1.alloc (Obj.cells #[Value.int IntKind.i64 R.q, Value.int IntKind.i64 R.n, Value.int IntKind.i64 R.c] 62)) from (HB.out.trans (Hw1.out.mono HB.out.size)).alloc (HB.out.trans (Hw1.out.mono HB.out.size)).size _)
    have HK2 := Lib.hid (show Blk (w1.alloc (Obj.cells #[Value.int IntKind.i64 R.q, Value.int IntKind.i64 R.n, Value.int IntKind.i64 R.c] 62)) w.heap.size 36 #[.int .i64 0, .int .i64 0] from (HK.out.below Hw1.out).alloc _)
    generalize w1.alloc (Obj.cells #[Value.int IntKind.i64 R.q, Value.int IntKind.i64 R.n, Value.int IntKind.i64 R.c] 62) = W2 at *
    obtain ⟨c0, c1⟩ := HK2.out.two'
    have f0 := HK2.out.free 0
    have f1 := HK2.out.free 1
    go_region
    go_wp2_with fail
    refine bodyPost_ret (results_tst rfl _ rfl rfl rfl (HK2.out.set2 _ _).drew) rfl ?_
    exact ⟨rfl, ((HB2.out.setCell (Nat.le_refl _) _).setCell (Nat.le_refl _) _).drew⟩
end Go.Proofs.Ytpnnmibdboelpaa
