/-
  What extend's functions and the reference's return is one; the chapter's examples.
-/
import Derived.Test.YtpobmmdjcfdfoaaExtC
namespace Go.Proofs.Ytpobmmdjcfdfoaa
open Go.RowKit

theorem split_le {l : List Int} {st : Int} (h : spB st l.length = true) : (Ex.splitE st l).length ≤ 4096 ∧ (Ex.splitO st l).length ≤ 4096 := by
  obtain ⟨_, _, h3⟩ := sp_iff.1 h
  rw [Ex.splitE_len, Ex.splitO_len]
  have := (Ex.cnt_next (s := st) (k := l.length)).2.2
  omega
theorem split_both (l : List Int) (st : Int) (s : Option Addr) (m : Nat) :
    ∃ (E O : List Int) (err : Int), E.length ≤ 4096 ∧ O.length ≤ 4096 ∧ (∀ w : World, HoldsI w s l → Calls Try.prog 23 #[.slice s l.length m, .int .i64 st] w (GivesSplit E O err w)) ∧ (∀ w : World, HoldsI w s l → Calls Try.prog 24 #[.slice s l.length m, .int .i64 st] w (GivesSplit E O err w)) := by
  cases hh : spB st l.length with
  | true => exact ⟨_, _, _, (split_le hh).1, (split_le hh).2, fun w hH => split_cyes l st s m w hh hH, fun w hH => split_yes l st s m w hh hH⟩
  | false => exact ⟨_, _, _, Nat.zero_le _, Nat.zero_le _, fun w _ => split_cno l st s m w hh, fun w _ => split_no l st s m w hh⟩
theorem join_le {e o : List Int} {st : Int} (h : jnB st e.length o.length = true) : (Ex.joinL st e o).length ≤ 4096 := by
  obtain ⟨_, _, h3⟩ := jn_iff.1 h
  rw [Ex.joinL_len]; exact h3
theorem join_both (e o : List Int) (st : Int) (s t : Option Addr) (m m' : Nat) (hm : e.length ≤ m) (hm' : o.length ≤ m') (he : e.length ≤ 4611686018427387904) (ho : o.length ≤ 4611686018427387904) :
    ∃ (L : List Int) (err : Int), L.length ≤ 4096 ∧ (∀ w : World, HoldsI w s e → HoldsI w t o → Calls Try.prog 26 #[.slice s e.length m, .slice t o.length m', .int .i64 st] w (GivesE L err w)) ∧ (∀ w : World, HoldsI w s e → HoldsI w t o → Calls Try.prog 27 #[.slice s e.length m, .slice t o.length m', .int .i64 st] w (GivesE L err w)) := by
  cases hh : jnB st e.length o.length with
  | true =>
    cases hc : jcB st e.length o.length with
    | true => exact ⟨_, _, join_le hh, fun w hE hO => join_cyes e o st s t m m' w hh hc hm hm' hE hO, fun w hE hO => join_yes e o st s t m m' w hh hc hE hO⟩
    | false => exact ⟨_, _, Nat.zero_le _, fun w _ _ => join_cno2 e o st s t m m' w hh hc, fun w _ _ => join_no2 e o st s t m m' w hh hc⟩
  | false => exact ⟨_, _, Nat.zero_le _, fun w _ _ => join_cno1 e o st s t m m' w hh he ho, fun w _ _ => join_no1 e o st s t m m' w hh he ho⟩
theorem at_both (l : List Int) (st i : Int) (s : Option Addr) (m : Nat) (hl : l.length ≤ 140737488351232) :
    ∃ (v : Int) (ok : Bool), (∀ w : World, HoldsI w s l → Calls Try.prog 28 #[.slice s l.length m, .int .i64 st, .int .i64 i] w fun e w' => e = .returned (.tuple #[.int .i64 v, .bool ok]) ∧ Below w.heap.size w w') ∧ (∀ w : World, HoldsI w s l → Calls Try.prog 29 #[.slice s l.length m, .int .i64 st, .int .i64 i] w fun e w' => e = .returned (.tuple #[.int .i64 v, .bool ok]) ∧ w = w') := by
  cases hh : atB st i l.length with
  | true => exact ⟨_, _, fun w hH => at_cyes l st i s m w hh hH, fun w hH => at_yes l st i s m w hh hH⟩
  | false => exact ⟨_, _, fun w _ => at_cno l st i s m w hl hh, fun w _ => at_no l st i s m w hl hh⟩
/-- What is split is joined. -/
theorem jn_split {l : List Int} {st : Int} (h : spB st l.length = true) : jnB st (Ex.splitE st l).length (Ex.splitO st l).length = true ∧ jcB st (Ex.splitE st l).length (Ex.splitO st l).length = true := by
  obtain ⟨h1, h2, h3⟩ := sp_iff.1 h
  have hc := (Ex.cnt_next (s := st) (k := l.length)).2.2.2
  rw [Ex.splitE_len, Ex.splitO_len]
  refine ⟨jn_iff.2 ⟨h1, h2, by omega⟩, ?_⟩
  rw [jcB, hc]
  simp
theorem join_back {l : List Int} {st : Int} (hs : spB st l.length = true) (s t : Option Addr) (m m' : Nat) (hm : (Ex.splitE st l).length ≤ m) (hm' : (Ex.splitO st l).length ≤ m') (w : World) (hE : HoldsI w s (Ex.splitE st l)) (hO : HoldsI w t (Ex.splitO st l)) :
    Calls Try.prog 26 #[.slice s (Ex.splitE st l).length m, .slice t (Ex.splitO st l).length m', .int .i64 st] w (GivesE l 0 w) := by
  have h := join_cyes (Ex.splitE st l) (Ex.splitO st l) st s t m m' w (jn_split hs).1 (jn_split hs).2 hm hm' hE hO
  rw [Ex.join_split] at h
  exact h
theorem e3_cnt (w : World) :
    Calls Try.prog 21 #[.int .i64 3, .int .i64 3] w (fun e w' => e = .returned (.tuple #[.int .i64 1, .int .i64 2]) ∧ Below w.heap.size w w') := by
  have h := cnt_c 3 3 w
  rw [show ceI 3 3 = 1 by decide] at h
  rw [show coI 3 3 = 2 by decide] at h
  exact h
theorem e3_split (s : Option Addr) (w : World) (hH : HoldsI w s [7, 8, 9]) :
    Calls Try.prog 23 #[.slice s 3 3, .int .i64 3] w (GivesSplit [8] [7, 9] 0 w) := by
  have h := split_cyes [7, 8, 9] 3 s 3 w (by decide) hH
  rw [show Ex.splitE 3 [7, 8, 9] = [8] by decide] at h
  rw [show Ex.splitO 3 [7, 8, 9] = [7, 9] by decide] at h
  exact h
theorem e3_join (s t : Option Addr) (w : World) (hE : HoldsI w s [8]) (hO : HoldsI w t [7, 9]) :
    Calls Try.prog 26 #[.slice s 1 1, .slice t 2 2, .int .i64 3] w (GivesE [7, 8, 9] 0 w) := by
  have h := join_cyes [8] [7, 9] 3 s t 1 2 w (by decide) (by decide) (by decide) (by decide) hE hO
  rw [show Ex.joinL 3 [8] [7, 9] = [7, 8, 9] by decide] at h
  exact h
theorem e3_join4 (s t : Option Addr) (w : World) :
    Calls Try.prog 26 #[.slice s 2 2, .slice t 1 1, .int .i64 3] w (GivesE [] 4 w) := by
  have h := join_cno2 [8, 9] [7] 3 s t 2 1 w (by decide) (by decide)
  exact h
theorem e3_at (s : Option Addr) (w : World) (hH : HoldsI w s [7, 8, 9]) :
    Calls Try.prog 28 #[.slice s 3 3, .int .i64 3, .int .i64 2] w (fun e w' => e = .returned (.tuple #[.int .i64 8, .bool true]) ∧ Below w.heap.size w w') := by
  have h := at_cyes [7, 8, 9] 3 2 s 3 w (by decide) hH
  rw [show Ex.ex 3 [7, 8, 9] 2 = 8 by decide] at h
  exact h
theorem e3_mir0 (w : World) :
    Calls Try.prog 18 #[.int .i64 (-1), .int .i64 0, .int .i64 4] w (fun e w' => e = .returned (.int .i64 1) ∧ Below w.heap.size w w') := by
  have h := mir_c (-1) 0 4 w
  rw [show mirV (-1) 0 4 = 1 by decide] at h
  exact h
theorem e3_mir1 (w : World) :
    Calls Try.prog 18 #[.int .i64 4, .int .i64 0, .int .i64 4] w (fun e w' => e = .returned (.int .i64 2) ∧ Below w.heap.size w w') := by
  have h := mir_c 4 0 4 w
  rw [show mirV 4 0 4 = 2 by decide] at h
  exact h
theorem e3_mir2 (w : World) :
    Calls Try.prog 18 #[.int .i64 9, .int .i64 5, .int .i64 6] w (fun e w' => e = .returned (.int .i64 5) ∧ Below w.heap.size w w') := by
  have h := mir_c 9 5 6 w
  rw [show mirV 9 5 6 = 5 by decide] at h
  exact h
set_option maxRecDepth 100000 in
set_option maxHeartbeats 2000000 in
theorem example03_c (w : World) : Calls Try.prog 20 #[] w fun e w' => e = .returned (.bool true) ∧ Below w.heap.size w w' := by
  go_enter Try.func20, Try.ntmps20
  have B := Below.refl w.heap.size w
  go_wp2_with fail
  refine (e3_cnt _).mono ?_
  rintro e w1 ⟨rfl, hb⟩
  replace B := below_call B hb
  clear hb
  go_wp2_with fail
  refine (e3_split _ _ (holds_new w1 w1.heap.size rfl [7, 8, 9] _ rfl)).mono ?_
  rintro e w2 ⟨s1, m1, s2, m2, rfl, l1, l2, hb, _, _⟩
  replace B := below_call (below_alloc B _) hb
  clear hb
  go_wp2_with fail
  refine (e3_join _ _ _ ((holds_new w2 w2.heap.size rfl [8] _ rfl).alloc _) (holds_new _ (w2.heap.size + 1) (by simp) [7, 9] _ rfl)).mono ?_
  rintro e w3 ⟨s3, m3, rfl, l3, hb, _⟩
  replace l1 := ((l1.alloc _).alloc _).call hb
  replace l2 := ((l2.alloc _).alloc _).call hb
  replace B := below_call (below_alloc (below_alloc B _) _) hb
  clear hb
  go_wp2_with fail
  refine (e3_join4 _ _ _).mono ?_
  rintro e w4 ⟨s4, m4, rfl, _, hb, _⟩
  replace l1 := ((l1.alloc _).alloc _).call hb
  replace l2 := ((l2.alloc _).alloc _).call hb
  replace l3 := ((l3.alloc _).alloc _).call hb
  replace B := below_call (below_alloc (below_alloc B _) _) hb
  clear hb
  go_wp2_with fail
  refine (e3_at _ _ (holds_new w4 w4.heap.size rfl [7, 8, 9] _ rfl)).mono ?_
  rintro e w5 ⟨rfl, hb⟩
  replace l1 := (l1.alloc _).call hb
  replace l2 := (l2.alloc _).call hb
  replace l3 := (l3.alloc _).call hb
  replace B := below_call (below_alloc B _) hb
  clear hb
  go_wp2_with fail
  refine (e3_mir0 _).mono ?_
  rintro e w6 ⟨rfl, hb⟩
  replace l1 := l1.call hb
  replace l2 := l2.call hb
  replace l3 := l3.call hb
  replace B := below_call B hb
  clear hb
  go_wp2_with fail
  refine (e3_mir1 _).mono ?_
  rintro e w7 ⟨rfl, hb⟩
  replace l1 := l1.call hb
  replace l2 := l2.call hb
  replace l3 := l3.call hb
  replace B := below_call B hb
  clear hb
  go_wp2_with fail
  refine (e3_mir2 _).mono ?_
  rintro e w8 ⟨rfl, hb⟩
  replace l1 := l1.call hb
  replace l2 := l2.call hb
  replace l3 := l3.call hb
  replace B := below_call B hb
  clear hb
  go_wp2_with fail
  refine (ints_t [8] 1 rfl (by decide) _ _ _ _ _ (l1.alloc _) (holds_new w8 w8.heap.size rfl [8] _ rfl)).mono ?_
  rintro e w9 ⟨rfl, hb⟩
  replace l1 := (l1.alloc _).call hb
  replace l2 := (l2.alloc _).call hb
  replace l3 := (l3.alloc _).call hb
  replace B := below_call (below_alloc B _) hb
  clear hb
  go_wp2_with fail
  refine (ints_t [7, 9] 2 rfl (by decide) _ _ _ _ _ (l2.alloc _) (holds_new w9 w9.heap.size rfl [7, 9] _ rfl)).mono ?_
  rintro e w10 ⟨rfl, hb⟩
  replace l1 := (l1.alloc _).call hb
  replace l2 := (l2.alloc _).call hb
  replace l3 := (l3.alloc _).call hb
  replace B := below_call (below_alloc B _) hb
  clear hb
  go_wp2_with fail
  refine (ints_t [7, 8, 9] 3 rfl (by decide) _ _ _ _ _ (l3.alloc _) (holds_new w10 w10.heap.size rfl [7, 8, 9] _ rfl)).mono ?_
  rintro e w11 ⟨rfl, hb⟩
  replace l1 := (l1.alloc _).call hb
  replace l2 := (l2.alloc _).call hb
  replace l3 := (l3.alloc _).call hb
  replace B := below_call (below_alloc B _) hb
  clear hb
  go_wp2
  go_ret
  exact ⟨rfl, B⟩
end Go.Proofs.Ytpobmmdjcfdfoaa
