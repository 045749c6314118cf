/-
  Layer 20: the examples.
-/
import Derived.Test.YtoipgaolbjegnaaIc
import Derived.Test.YtoipgaolbjegnaaId
set_option maxRecDepth 100000
namespace Go.Proofs.Ytoipgaolbjegnaa
open Go.RowKit

theorem exA : VP [0, 10, 20, 30] [100, 60, 50, 10] ∧ nats (hull [0, 10, 20, 30] [100, 60, 50, 10]) = [0, 1, 3] := by decide +kernel
theorem exB : VP [0, 0, 4, 4] [9, 5, 5, 1] ∧ nats (hull [0, 0, 4, 4] [9, 5, 5, 1]) = [0, 1, 3] := by decide +kernel
theorem exC : VP [0, 2, 4] [8, 4, 0] ∧ nats (hull [0, 2, 4] [8, 4, 0]) = [0, 2] := by decide +kernel
theorem exD : ¬ VP [] [] := by decide +kernel
theorem exF : bestI [0, 2, 4] [8, 4, 0] 2 1 = 0 ∧ bestI [0, 2, 4] [8, 4, 0] 1 1 = 2 ∧ bestI [0, 2, 4] [8, 4, 0] 1 0 = -1 := by decide +kernel
theorem exG : steep 1 0 5 1 = 1 ∧ steep 1 0 5 0 = 0 ∧ steep 0 0 0 7 = 0 ∧ steep (-1) 1 5 1 = 0 ∧ steep 1 2 2 3 = -1 := by decide +kernel
/-- The examples' curves in memory. -/
structure EX (W w : World) : Prop where
  b : Below W.heap.size W w
  ra : HoldsI w (some ⟨W.heap.size, 0, none⟩) [0, 10, 20, 30]
  da : HoldsI w (some ⟨W.heap.size + 1, 0, none⟩) [100, 60, 50, 10]
  ca : Blk w (W.heap.size + 1 + 1) 24 #[.slice (some ⟨W.heap.size, 0, none⟩) 4 4, .slice (some ⟨W.heap.size + 1, 0, none⟩) 4 4]
  rb : HoldsI w (some ⟨W.heap.size + 1 + 1 + 1, 0, none⟩) [0, 0, 4, 4]
  db : HoldsI w (some ⟨W.heap.size + 1 + 1 + 1 + 1, 0, none⟩) [9, 5, 5, 1]
  cb : Blk w (W.heap.size + 1 + 1 + 1 + 1 + 1) 24 #[.slice (some ⟨W.heap.size + 1 + 1 + 1, 0, none⟩) 4 4, .slice (some ⟨W.heap.size + 1 + 1 + 1 + 1, 0, none⟩) 4 4]
  rc : HoldsI w (some ⟨W.heap.size + 1 + 1 + 1 + 1 + 1 + 1, 0, none⟩) [0, 2, 4]
  dc : HoldsI w (some ⟨W.heap.size + 1 + 1 + 1 + 1 + 1 + 1 + 1, 0, none⟩) [8, 4, 0]
  cc : Blk w (W.heap.size + 1 + 1 + 1 + 1 + 1 + 1 + 1 + 1) 24 #[.slice (some ⟨W.heap.size + 1 + 1 + 1 + 1 + 1 + 1, 0, none⟩) 3 3, .slice (some ⟨W.heap.size + 1 + 1 + 1 + 1 + 1 + 1 + 1, 0, none⟩) 3 3]
theorem EX.call {W w w1 : World} (h : EX W w) (hb : Below w.heap.size w w1) : EX W w1 :=
  ⟨below_call h.b hb, h.ra.call hb, h.da.call hb, h.ca.below hb, h.rb.call hb, h.db.call hb, h.cb.below hb, h.rc.call hb, h.dc.call hb, h.cc.below hb⟩
theorem EX.cells {W w : World} (h : EX W w) :
    w.cell? ⟨W.heap.size + 1 + 1, 0, none⟩ = some (.slice (some ⟨W.heap.size, 0, none⟩) 4 4) ∧ w.cell? ⟨W.heap.size + 1 + 1, 1, none⟩ = some (.slice (some ⟨W.heap.size + 1, 0, none⟩) 4 4) ∧
    w.cell? ⟨W.heap.size + 1 + 1 + 1 + 1 + 1, 0, none⟩ = some (.slice (some ⟨W.heap.size + 1 + 1 + 1, 0, none⟩) 4 4) ∧ w.cell? ⟨W.heap.size + 1 + 1 + 1 + 1 + 1, 1, none⟩ = some (.slice (some ⟨W.heap.size + 1 + 1 + 1 + 1, 0, none⟩) 4 4) ∧
    w.cell? ⟨W.heap.size + 1 + 1 + 1 + 1 + 1 + 1 + 1 + 1, 0, none⟩ = some (.slice (some ⟨W.heap.size + 1 + 1 + 1 + 1 + 1 + 1, 0, none⟩) 3 3) ∧ w.cell? ⟨W.heap.size + 1 + 1 + 1 + 1 + 1 + 1 + 1 + 1, 1, none⟩ = some (.slice (some ⟨W.heap.size + 1 + 1 + 1 + 1 + 1 + 1 + 1, 0, none⟩) 3 3) :=
  ⟨h.ca.cell 0, h.ca.cell 1, h.cb.cell 0, h.cb.cell 1, h.cc.cell 0, h.cc.cell 1⟩
def rowO (l : List Int) : Obj := .cells (l.map (Value.int .i64)).toArray 3
def curO (a b n : Nat) : Obj := .cells #[.slice (some ⟨a, 0, none⟩) n n, .slice (some ⟨b, 0, none⟩) n n] 24
theorem row_new (w : World) (B : Nat) (hB : B = w.heap.size) (l : List Int) : HoldsI (w.alloc (rowO l)) (some ⟨B, 0, none⟩) l := holds_new w B hB l _ rfl
theorem EX.new (W : World) : EX W (((((((((W.alloc (rowO [0, 10, 20, 30])).alloc (rowO [100, 60, 50, 10])).alloc (curO W.heap.size (W.heap.size + 1) 4)).alloc (rowO [0, 0, 4, 4])).alloc (rowO [9, 5, 5, 1])).alloc (curO (W.heap.size + 1 + 1 + 1) (W.heap.size + 1 + 1 + 1 + 1) 4)).alloc (rowO [0, 2, 4])).alloc (rowO [8, 4, 0])).alloc (curO (W.heap.size + 1 + 1 + 1 + 1 + 1 + 1) (W.heap.size + 1 + 1 + 1 + 1 + 1 + 1 + 1) 3)) := by
  have s : ∀ (w : World) (o : Obj), (w.alloc o).heap.size = w.heap.size + 1 := fun w o => by simp
  have bn : ∀ (w : World) (B a b n : Nat), B = w.heap.size → Blk (w.alloc (curO a b n)) B 24 #[.slice (some ⟨a, 0, none⟩) n n, .slice (some ⟨b, 0, none⟩) n n] := fun w B a b n h => by subst h; exact Blk.new w _ _
  refine ⟨?_, ?_, ?_, ?_, ?_, ?_, ?_, ?_, ?_, ?_⟩
  · exact below_alloc (below_alloc (below_alloc (below_alloc (below_alloc (below_alloc (below_alloc (below_alloc (below_alloc (Below.refl _ W) _) _) _) _) _) _) _) _) _
  · exact ((((((((row_new _ _ rfl _).alloc _).alloc _).alloc _).alloc _).alloc _).alloc _).alloc _).alloc _
  · exact (((((((row_new _ _ (by simp [s]) _).alloc _).alloc _).alloc _).alloc _).alloc _).alloc _).alloc _
  · exact ((((((bn _ _ _ _ _ (by simp [s])).alloc _).alloc _).alloc _).alloc _).alloc _).alloc _
  · exact (((((row_new _ _ (by simp [s]) _).alloc _).alloc _).alloc _).alloc _).alloc _
  · exact ((((row_new _ _ (by simp [s]) _).alloc _).alloc _).alloc _).alloc _
  · exact (((bn _ _ _ _ _ (by simp [s])).alloc _).alloc _).alloc _
  · exact ((row_new _ _ (by simp [s]) _).alloc _).alloc _
  · exact (row_new _ _ (by simp [s]) _).alloc _
  · exact bn _ _ _ _ _ (by simp [s])
set_option maxHeartbeats 8000000 in
theorem ex20_c (W : World) : Calls Try.prog 11 #[] W fun e w' => e = .returned (.bool true) ∧ Below W.heap.size W w' := by
  have ka : ∀ w, EX W w → Calls Try.prog 17 #[.agg #[.slice (some ⟨W.heap.size, 0, none⟩) 4 4, .slice (some ⟨W.heap.size + 1, 0, none⟩) 4 4]] w (GivesI [0, 1, 3] w) := fun w h => by
    have k := hpoints_c _ _ 4 4 4 4 _ _ w h.ra h.da rfl rfl
    rw [if_pos exA.1, exA.2] at k; exact k
  have kb : ∀ w, EX W w → Calls Try.prog 17 #[.agg #[.slice (some ⟨W.heap.size + 1 + 1 + 1, 0, none⟩) 4 4, .slice (some ⟨W.heap.size + 1 + 1 + 1 + 1, 0, none⟩) 4 4]] w (GivesI [0, 1, 3] w) := fun w h => by
    have k := hpoints_c _ _ 4 4 4 4 _ _ w h.rb h.db rfl rfl
    rw [if_pos exB.1, exB.2] at k; exact k
  have kc : ∀ w, EX W w → Calls Try.prog 17 #[.agg #[.slice (some ⟨W.heap.size + 1 + 1 + 1 + 1 + 1 + 1, 0, none⟩) 3 3, .slice (some ⟨W.heap.size + 1 + 1 + 1 + 1 + 1 + 1 + 1, 0, none⟩) 3 3]] w (GivesI [0, 2] w) := fun w h => by
    have k := hpoints_c _ _ 3 3 3 3 _ _ w h.rc h.dc rfl rfl
    rw [if_pos exC.1, exC.2] at k; exact k
  have kv : ∀ w, EX W w → Calls Try.prog 12 #[.agg #[.slice (some ⟨W.heap.size, 0, none⟩) 4 4, .slice (some ⟨W.heap.size + 1, 0, none⟩) 4 4]] w fun e w' => e = .returned (.bool true) ∧ Below w.heap.size w w' := fun w h => by
    have k := hvalid_c _ _ 4 4 4 4 _ _ w h.ra h.da rfl rfl
    rw [decide_eq_true exA.1] at k; exact k
  have k0 : ∀ w, Calls Try.prog 12 #[.agg #[.slice none 0 0, .slice none 0 0]] w fun e w' => e = .returned (.bool false) ∧ Below w.heap.size w w' := fun w => by
    have k := hvalid_c [] [] 0 0 0 0 none none w (.inl rfl) (.inl rfl) rfl rfl
    rw [decide_eq_false exD] at k; exact k
  have kt : ∀ (d r x : Int), bestI [0, 2, 4] [8, 4, 0] d r = x → ∀ w, EX W w → Calls Try.prog 19 #[.agg #[.slice (some ⟨W.heap.size + 1 + 1 + 1 + 1 + 1 + 1, 0, none⟩) 3 3, .slice (some ⟨W.heap.size + 1 + 1 + 1 + 1 + 1 + 1 + 1, 0, none⟩) 3 3], .int .i64 d, .int .i64 r] w fun e w' => e = .returned (.int .i64 x) ∧ Below w.heap.size w w' := fun d r x hx w h => by
    have k := hbest_c _ _ 3 3 3 3 d r _ _ w h.rc h.dc rfl rfl
    rw [hx] at k; exact k
  have k13 : ∀ (w : World) (s : Option Addr) (m : Nat), HoldsI w s [0, 1, 3] → Calls Try.prog 16 #[.slice s 3 m, .slice (some ⟨w.heap.size, 0, none⟩) 3 3] (w.alloc (.cells #[.int .i64 0, .int .i64 1, .int .i64 3] 3)) fun e w' => e = .returned (.bool true) ∧ Below w.heap.size w w' := fun w s m h =>
    (same20_t _ [0, 1, 3] s _ 3 m 3 rfl (h.alloc _) (holds_new w _ rfl [0, 1, 3] _ rfl) (by decide)).mono fun e w' z => ⟨z.1, below_call (below_alloc (Below.refl _ _) _) z.2⟩
  have k02 : ∀ (w : World) (s : Option Addr) (m : Nat), HoldsI w s [0, 2] → Calls Try.prog 16 #[.slice s 2 m, .slice (some ⟨w.heap.size, 0, none⟩) 2 2] (w.alloc (.cells #[.int .i64 0, .int .i64 2] 3)) fun e w' => e = .returned (.bool true) ∧ Below w.heap.size w w' := fun w s m h =>
    (same20_t _ [0, 2] s _ 2 m 2 rfl (h.alloc _) (holds_new w _ rfl [0, 2] _ rfl) (by decide)).mono fun e w' z => ⟨z.1, below_call (below_alloc (Below.refl _ _) _) z.2⟩
  have K13 := Lib.hid k13
  have K02 := Lib.hid k02
  clear k13 k02
  have t1 := kt 2 1 0 exF.1
  have t2 := kt 1 1 2 exF.2.1
  have t3 := kt 1 0 (-1) exF.2.2
  have ks : ∀ (a x b y z : Int), steep a x b y = z → ∀ w, Calls Try.prog 14 #[.int .i64 a, .int .i64 x, .int .i64 b, .int .i64 y] w fun e w' => e = .returned (.int .i64 z) ∧ w' = w := fun a x b y z hz w => by
    have k := hsteeper_c a x b y w
    rw [hz] at k; exact k
  have s1 := ks 1 0 5 1 1 exG.1
  have s2 := ks 1 0 5 0 0 exG.2.1
  have s3 := ks 0 0 0 7 0 exG.2.2.1
  have s4 := ks (-1) 1 5 1 0 exG.2.2.2.1
  have s5 := ks 1 2 2 3 (-1) exG.2.2.2.2
  have X0 : EX W (((((((((W.alloc (.cells #[.int .i64 0, .int .i64 10, .int .i64 20, .int .i64 30] 3)).alloc (.cells #[.int .i64 100, .int .i64 60, .int .i64 50, .int .i64 10] 3)).alloc (.cells #[.slice (some ⟨W.heap.size, 0, none⟩) 4 4, .slice (some ⟨W.heap.size + 1, 0, none⟩) 4 4] 24)).alloc (.cells #[.int .i64 0, .int .i64 0, .int .i64 4, .int .i64 4] 3)).alloc (.cells #[.int .i64 9, .int .i64 5, .int .i64 5, .int .i64 1] 3)).alloc (.cells #[.slice (some ⟨W.heap.size + 1 + 1 + 1, 0, none⟩) 4 4, .slice (some ⟨W.heap.size + 1 + 1 + 1 + 1, 0, none⟩) 4 4] 24)).alloc (.cells #[.int .i64 0, .int .i64 2, .int .i64 4] 3)).alloc (.cells #[.int .i64 8, .int .i64 4, .int .i64 0] 3)).alloc (.cells #[.slice (some ⟨W.heap.size + 1 + 1 + 1 + 1 + 1 + 1, 0, none⟩) 3 3, .slice (some ⟨W.heap.size + 1 + 1 + 1 + 1 + 1 + 1 + 1, 0, none⟩) 3 3] 24)) := EX.new W
  have X := Lib.hid X0
  obtain ⟨x0, x1, x2, x3, x4, x5⟩ := X0.cells
  have KA := Lib.hid ka
  have KB := Lib.hid kb
  have KC := Lib.hid kc
  have KV := Lib.hid kv
  have K0 := Lib.hid k0
  have T1 := Lib.hid t1
  have T2 := Lib.hid t2
  have T3 := Lib.hid t3
  have S1 := Lib.hid s1
  have S2 := Lib.hid s2
  have S3 := Lib.hid s3
  have S4 := Lib.hid s4
  have S5 := Lib.hid s5
  clear ka kb kc kv k0 kt t1 t2 t3 ks s1 s2 s3 s4 s5 X0
  go_enter Try.func11, Try.ntmps11
  go_wp2_with (first
    | (go_at_call 17; (with_reducible refine (KA.out _ X.out).mono ?_); rintro e w1 ⟨p1, m1, rfl, hh, hb⟩; have X := Lib.hid (X.out.call hb); have HH := Lib.hid hh; obtain ⟨x0, x1, x2, x3, x4, x5⟩ := X.out.cells; clear hb hh)
    | (go_at_call 17; (with_reducible refine (KB.out _ X.out).mono ?_); rintro e w1 ⟨p1, m1, rfl, hh, hb⟩; have X := Lib.hid (X.out.call hb); have HH := Lib.hid hh; obtain ⟨x0, x1, x2, x3, x4, x5⟩ := X.out.cells; clear hb hh)
    | (go_at_call 17; (with_reducible refine (KC.out _ X.out).mono ?_); rintro e w1 ⟨p1, m1, rfl, hh, hb⟩; have X := Lib.hid (X.out.call hb); have HH := Lib.hid hh; obtain ⟨x0, x1, x2, x3, x4, x5⟩ := X.out.cells; clear hb hh)
    | (go_at_call 16; (with_reducible refine (K13.out _ _ _ HH.out).mono ?_); rintro e w2 ⟨rfl, hb⟩; have X := Lib.hid (X.out.call hb); obtain ⟨x0, x1, x2, x3, x4, x5⟩ := X.out.cells; clear hb)
    | (go_at_call 16; (with_reducible refine (K02.out _ _ _ HH.out).mono ?_); rintro e w2 ⟨rfl, hb⟩; have X := Lib.hid (X.out.call hb); obtain ⟨x0, x1, x2, x3, x4, x5⟩ := X.out.cells; clear hb)
    | (go_at_call 12; (with_reducible refine (KV.out _ X.out).mono ?_); rintro e w3 ⟨rfl, hb⟩; have X := Lib.hid (X.out.call hb); obtain ⟨x0, x1, x2, x3, x4, x5⟩ := X.out.cells; clear hb)
    | (go_at_call 12; (with_reducible refine (K0.out _).mono ?_); rintro e w3 ⟨rfl, hb⟩; have X := Lib.hid (X.out.call hb); obtain ⟨x0, x1, x2, x3, x4, x5⟩ := X.out.cells; clear hb)
    | (go_at_call 19; (with_reducible refine (T1.out _ X.out).mono ?_); rintro e w4 ⟨rfl, hb⟩; have X := Lib.hid (X.out.call hb); obtain ⟨x0, x1, x2, x3, x4, x5⟩ := X.out.cells; clear hb)
    | (go_at_call 19; (with_reducible refine (T2.out _ X.out).mono ?_); rintro e w4 ⟨rfl, hb⟩; have X := Lib.hid (X.out.call hb); obtain ⟨x0, x1, x2, x3, x4, x5⟩ := X.out.cells; clear hb)
    | (go_at_call 19; (with_reducible refine (T3.out _ X.out).mono ?_); rintro e w4 ⟨rfl, hb⟩; have X := Lib.hid (X.out.call hb); obtain ⟨x0, x1, x2, x3, x4, x5⟩ := X.out.cells; clear hb)
    | (go_at_call 14; first | (with_reducible refine (S1.out _).mono ?_) | (with_reducible refine (S2.out _).mono ?_) | (with_reducible refine (S3.out _).mono ?_) | (with_reducible refine (S4.out _).mono ?_) | (with_reducible refine (S5.out _).mono ?_)); rintro e wn ⟨rfl, rfl⟩
    | fail)
  go_ret
  exact ⟨rfl, X.out.b⟩
end Go.Proofs.Ytoipgaolbjegnaa
