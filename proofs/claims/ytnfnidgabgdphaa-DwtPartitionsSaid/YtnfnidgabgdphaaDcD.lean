/-
  Contract of the code of layer 5: splitRows.
-/
import Derived.Test.YtnfnidgabgdphaaDcC
import Derived.Test.YtnfnidgabgdphaaDwG
import Derived.Test.YtnfnidgabgdphaaLiftC
set_option maxRecDepth 100000
namespace Go.Proofs.Ytnfnidgabgdphaa
open Go.RowKit

/-! A plane's block whose parts are stored -/
theorem QBox.rect4 {w : World} {B : Nat} {r : Pl.R} {v : Value} (h : QBox w B r v) (a b c d : Int) :
    QBox ((((w.setCell ⟨B, 0, none⟩ (.int .i64 a)).setCell ⟨B, 1, none⟩ (.int .i64 b)).setCell ⟨B, 2, none⟩ (.int .i64 c)).setCell ⟨B, 3, none⟩ (.int .i64 d)) B ⟨a, b, c, d⟩ v := by
  obtain ⟨c0, c1, c2, c3, c4⟩ := h.open
  refine ⟨by simp [RectAt, go_sem, c0, c1, c2, c3], by simp [go_sem, c4], fun j => ?_, by have := h.lt; simpa [World.setCell] using this⟩
  simp only [World.frozen?_setCell]
  exact h.free j
theorem QBox.list {w : World} {B : Nat} {r : Pl.R} {v : Value} (h : QBox w B r v) (u : Value) : QBox (w.setCell ⟨B, 4, none⟩ u) B r u := by
  obtain ⟨c0, c1, c2, c3, c4⟩ := h.open
  refine ⟨by simp [RectAt, go_sem, c0, c1, c2, c3], by simp [go_sem, c4], fun j => ?_, by have := h.lt; simpa [World.setCell] using this⟩
  simp only [World.frozen?_setCell]
  exact h.free j
theorem QBox.far4 {w : World} {B b : Nat} {r : Pl.R} {v : Value} (h : QBox w B r v) (hn : B ≠ b) (v0 v1 v2 v3 : Value) : QBox ((((w.setCell ⟨b, 0, none⟩ v0).setCell ⟨b, 1, none⟩ v1).setCell ⟨b, 2, none⟩ v2).setCell ⟨b, 3, none⟩ v3) B r v :=
  (((h.far _ _ hn).far _ _ hn).far _ _ hn).far _ _ hn
theorem QBox.grown {w w1 : World} {B : Nat} {r : Pl.R} {v : Value} {row : Option Nat} (h : QBox w B r v) (hg : w.grownBy w1 row) (hn : some B ≠ row) : QBox w1 B r v := by
  have hb := hg.block B h.lt hn
  have c : ∀ o, w1.cell? ⟨B, o, none⟩ = w.cell? ⟨B, o, none⟩ := fun o => World.cell?_of_block hb
  exact ⟨⟨(c _).trans h.cells.1, (c _).trans h.cells.2.1, (c _).trans h.cells.2.2.1, (c _).trans h.cells.2.2.2⟩, (c _).trans h.data, fun j => (World.frozen?_of_block hb).trans (h.free j), by have := h.lt; have := hg.size; omega⟩

theorem but5 {W : World} {b : Nat} (v0 v1 v2 v3 v4 : Value) : But b W (((((W.setCell ⟨b, 0, none⟩ v0).setCell ⟨b, 1, none⟩ v1).setCell ⟨b, 2, none⟩ v2).setCell ⟨b, 3, none⟩ v3).setCell ⟨b, 4, none⟩ v4) :=
  but_cell (but_cell (but_cell (but_cell (but_cell (But.of (Below.refl _ _)) _ _) _ _) _ _) _ _) _ _
/-- Two planes whose samples grow, and the plane that came in. -/
structure Sr (w : World) (N B1 B2 : Nat) (r r1 r2 : Pl.R) (sv v1 v2 : Value) (o1 o2 : List Int) (W : World) : Prop where
  below : Below w.heap.size w W
  p : QBox W w.heap.size r sv
  q1 : QBox W B1 r1 v1
  q2 : QBox W B2 r2 v2
  own1 : W.ownsRow N 3 1 v1 o1.length (o1.map (Value.int .i64))
  own2 : W.ownsRow N 3 1 v2 o2.length (o2.map (Value.int .i64))
  apart : ∀ g, v1.ownBlock = some g → v2.ownBlock ≠ some g
  ne : B1 ≠ B2
  h1 : w.heap.size < B1 ∧ B1 < N
  h2 : w.heap.size < B2 ∧ B2 < N
  hW : N ≤ W.heap.size
section
variable {w W : World} {N B1 B2 : Nat} {r r1 r2 : Pl.R} {sv v1 v2 : Value} {o1 o2 : List Int}
theorem Sr.swap (h : Sr w N B1 B2 r r1 r2 sv v1 v2 o1 o2 W) : Sr w N B2 B1 r r2 r1 sv v2 v1 o2 o1 W :=
  ⟨h.below, h.p, h.q2, h.q1, h.own2, h.own1, fun g a b => h.apart g b a, h.ne.symm, h.h2, h.h1, h.hW⟩
theorem Sr.step {W1 : World} (h : Sr w N B1 B2 r r1 r2 sv v1 v2 o1 o2 W) (hb : Below W.heap.size W W1) : Sr w N B1 B2 r r1 r2 sv v1 v2 o1 o2 W1 :=
  ⟨below_call h.below hb, h.p.below hb, h.q1.below hb, h.q2.below hb, own_below h.own1 hb, own_below h.own2 hb, h.apart, h.ne, h.h1, h.h2, Nat.le_trans h.hW hb.size⟩
theorem Sr.push {W2 : World} {v' : Value} {o3 : List Int} (h : Sr w N B1 B2 r r1 r2 sv v1 v2 o1 o2 W) (hg : W.grownBy W2 v1.ownBlock) (hown : W2.ownsRow N 3 1 v' o3.length (o3.map (Value.int .i64)))
    (hat : v'.ownBlock = v1.ownBlock ∨ v'.ownBlock = some W.heap.size) : Sr w N B1 B2 r r1 r2 sv v' v2 o3 o2 (W2.setCell ⟨B1, 4, none⟩ v') := by
  have hr : ∀ k, v1.ownBlock = some k → N ≤ k := fun k hk => (h.own1.lt k hk).1
  have hne : ∀ B, B < N → some B ≠ v1.ownBlock := fun B hB e => by have := hr B e.symm; omega
  have hp := h.p.grown hg (hne _ (by have := h.h1; omega))
  have hq1 := h.q1.grown hg (hne _ h.h1.2)
  have hq2 := h.q2.grown hg (hne _ h.h2.2)
  have hsz := hg.size
  refine ⟨(h.below.grown hg h.below.size (fun k hk => by have := hr k hk; have := h.h1; omega)).setCell (Nat.le_of_lt h.h1.1) _, hp.far _ _ (Nat.ne_of_lt h.h1.1), hq1.list v', hq2.far _ _ h.ne.symm, own_set hown _ _ h.h1.2, own_set (own_heap h.own2 fun g hgg => ?_) _ _ h.h1.2, fun g a b => ?_, h.ne, h.h1, h.h2, by rw [World.size_setCell]; have := h.hW; omega⟩
  · exact hg.block g (h.own2.lt g hgg).2 (fun e => h.apart g e.symm hgg)
  · have hlt := (h.own2.lt g b).2
    rcases hat with hat | hat
    · exact h.apart g (hat ▸ a) b
    · rw [hat] at a
      have := Option.some.inj a
      omega
end
/-- The halves that the call returns. -/
def GivesHalves (r1 r2 : Pl.R) (L H : List Int) (w : World) (e : Ending) (w' : World) : Prop :=
  ∃ s1 m1 s2 m2, e = .returned (.tuple #[.agg #[.int .i64 r1.x0, .int .i64 r1.y0, .int .i64 r1.x1, .int .i64 r1.y1, .slice s1 L.length m1], .agg #[.int .i64 r2.x0, .int .i64 r2.y0, .int .i64 r2.x1, .int .i64 r2.y1, .slice s2 H.length m2]]) ∧
    HoldsI w' s1 L ∧ HoldsI w' s2 H ∧ Below w.heap.size w w' ∧ L.length ≤ m1 ∧ H.length ≤ m2 ∧ Fresh w s1 ∧ Fresh w s2
theorem fwd_q (l : List Int) (st kn : Int) (s : Option Addr) (m n : Nat) (w : World) (hk : kB kn = true) (hh : fwB l st = true) (hs : s = none → l.length = 0 ∧ m = 0) (hH : HoldsI w s l) (hn : n = l.length) : Calls Try.prog 69 #[.slice s n m, .int .i64 st, .int .i64 kn] w (GivesSplit (Ex.loF st kn l) (Ex.hiF st kn l) 0 w) := by
  subst hn
  exact fwd_cyes l st kn s m w hk hh hs hH
theorem own_nil (W : World) (N : Nat) : W.ownsRow N 3 1 (.slice none 0 0) ([] : List Int).length (([] : List Int).map (Value.int .i64)) := World.ownsRow_nil _ _ _ _
/-- The worlds of the statement that stores the rectangles. -/
structure SrI (w : World) (r : Pl.R) (sv : Value) (g : Nat) (A : Array Value) (W : World) : Prop where
  below : Below w.heap.size w W
  p : QBox W w.heap.size r sv
  q1 : QBox W (w.heap.size + 1) ⟨0, 0, 0, 0⟩ (.slice none 0 0)
  q2 : QBox W (w.heap.size + 2) ⟨0, 0, 0, 0⟩ (.slice none 0 0)
  bk : Blk W g 24 A
theorem SrI.step {w W W1 : World} {r : Pl.R} {sv : Value} {g : Nat} {A : Array Value} (h : SrI w r sv g A W) (hb : Below W.heap.size W W1) : SrI w r sv g A W1 := ⟨below_call h.below hb, h.p.below hb, h.q1.below hb, h.q2.below hb, h.bk.below hb⟩
structure SrF (w : World) (r : Pl.R) (sv : Value) (g : Nat) (A : Array Value) where
  W : World
  ok : SrI w r sv g A W

set_option maxHeartbeats 8000000 in
theorem splitRows_q (a b c d kn : Int) (l : List Int) (s : Option Addr) (m n h : Nat) (w : World) (hp : pvB a b c d l.length = true) (hk : kB kn = true) (hf : fewB l 35184372088832 = true) (hm : l.length ≤ m) (hH : HoldsI w s l) (hn : c - a = (n : Int)) (hh : d - b = (h : Int)) :
    Calls Try.prog 71 #[.agg #[.int .i64 a, .int .i64 b, .int .i64 c, .int .i64 d, .slice s l.length m], .int .i64 kn] w
      (GivesHalves ⟨(bnds ⟨a, b, c, d⟩ 0).x0, b, (bnds ⟨a, b, c, d⟩ 0).x1, d⟩ ⟨(bnds ⟨a, b, c, d⟩ 1).x0, b, (bnds ⟨a, b, c, d⟩ 1).x1, d⟩ (Ex.lowR a kn (Ex.cutR n l h)).flatten (Ex.highR a kn (Ex.cutR n l h)).flatten w) := by
  obtain ⟨n', h', e1, e2, n4, h4, hlen, a0, a1, b0, b1, c0, c1, d0, d1, hv⟩ := pv_facts hp
  obtain rfl : n' = n := by omega
  obtain rfl : h' = h := by omega
  clear e1 e2
  have hfw := few_iff.1 hf
  have hl4 : l.length ≤ 16777216 := by rw [hlen]; exact mul_4096 h4 n4
  have HLn : Hid _ := hlen
  have Hp : Hid _ := hp
  clear hlen hp hf
  have x0 := ((QBox.fresh w a b c d s l.length m 30).alloc (.cells #[.int .i64 0, .int .i64 0, .int .i64 0, .int .i64 0, .slice none 0 0] 30)).alloc (.cells #[.int .i64 0, .int .i64 0, .int .i64 0, .int .i64 0, .slice none 0 0] 30)
  have x1 := (QBox.freshAt (w.alloc (.cells #[.int .i64 a, .int .i64 b, .int .i64 c, .int .i64 d, .slice s l.length m] 30)) (w.heap.size + 1) (by simp) 0 0 0 0 none 0 0 30).alloc (.cells #[.int .i64 0, .int .i64 0, .int .i64 0, .int .i64 0, .slice none 0 0] 30)
  have x2 := QBox.freshAt ((w.alloc (.cells #[.int .i64 a, .int .i64 b, .int .i64 c, .int .i64 d, .slice s l.length m] 30)).alloc (.cells #[.int .i64 0, .int .i64 0, .int .i64 0, .int .i64 0, .slice none 0 0] 30)) (w.heap.size + 2) (by simp) 0 0 0 0 none 0 0 30
  have B := below_alloc (below_alloc (below_alloc (Below.refl _ w) (.cells #[.int .i64 a, .int .i64 b, .int .i64 c, .int .i64 d, .slice s l.length m] 30)) (.cells #[.int .i64 0, .int .i64 0, .int .i64 0, .int .i64 0, .slice none 0 0] 30)) (.cells #[.int .i64 0, .int .i64 0, .int .i64 0, .int .i64 0, .slice none 0 0] 30)
  obtain ⟨A, hA⟩ : ∃ A, A = arr4 (bnds ⟨a, b, c, d⟩) := ⟨_, rfl⟩
  have HA16 : Hid (16 = A.size) := by rw [hA]; rfl
  have hAo : A.all (·.oneCell') = true := by rw [hA]; exact one16 _
  have hAi : (Try.prog.info? 24).map (·.size) = some A.size := by rw [hA]; exact info16
  have cB := fun W => bands_q a b c d W
  rw [← hA] at cB
  have HA : Hid _ := hA
  have HAi : Hid _ := hAi
  clear hA hAi
  go_enter Try.func71, Try.ntmps71
  obtain ⟨y0, y1, y2, y3, y4⟩ := x0.open
  go_wp2_with fail
  clear y0 y1 y2 y3 y4
  refine (cB _).mono ?_
  rintro e w3 ⟨rfl, hb⟩
  replace x0 := x0.below hb
  replace x1 := x1.below hb
  replace x2 := x2.below hb
  replace B := below_call B hb
  clear hb cB
  go_upto_region 2 with (first | (refine wpList_store_row rfl 24 (.tmp 6) (.tmp 15) rfl w3.heap.size A rfl rfl 24 _ (Blk.fresh w3 24 #[.int .i64 0, .int .i64 0, .int .i64 0, .int .i64 0, .int .i64 0, .int .i64 0, .int .i64 0, .int .i64 0, .int .i64 0, .int .i64 0, .int .i64 0, .int .i64 0, .int .i64 0, .int .i64 0, .int .i64 0, .int .i64 0]) HAi.out HA16.out hAo ?_))
  obtain ⟨W3, hW3⟩ : ∃ W3, W3 = (w3.alloc (.cells #[.int .i64 0, .int .i64 0, .int .i64 0, .int .i64 0, .int .i64 0, .int .i64 0, .int .i64 0, .int .i64 0, .int .i64 0, .int .i64 0, .int .i64 0, .int .i64 0, .int .i64 0, .int .i64 0, .int .i64 0, .int .i64 0] 24)).setRow w3.heap.size A := ⟨_, rfl⟩
  have lt0 : w.heap.size + 2 < w3.heap.size := x2.lt
  have z0 : QBox W3 w.heap.size ⟨a, b, c, d⟩ (.slice s l.length m) := by rw [hW3]; exact (x0.alloc _).but (But.setRow _) (by omega)
  have z1 : QBox W3 (w.heap.size + 1) ⟨0, 0, 0, 0⟩ (.slice none 0 0) := by rw [hW3]; exact (x1.alloc _).but (But.setRow _) (by omega)
  have z2 : QBox W3 (w.heap.size + 2) ⟨0, 0, 0, 0⟩ (.slice none 0 0) := by rw [hW3]; exact (x2.alloc _).but (But.setRow _) (by omega)
  have zb : Blk W3 w3.heap.size 24 A := hW3 ▸ (Blk.fresh w3 24 #[.int .i64 0, .int .i64 0, .int .i64 0, .int .i64 0, .int .i64 0, .int .i64 0, .int .i64 0, .int .i64 0, .int .i64 0, .int .i64 0, .int .i64 0, .int .i64 0, .int .i64 0, .int .i64 0, .int .i64 0, .int .i64 0]).row A
  have B3 : Below w.heap.size w W3 := hW3 ▸ below_row (below_alloc B _) (by omega) _
  have hS : SrI w ⟨a, b, c, d⟩ (.slice s l.length m) w3.heap.size A W3 := ⟨B3, z0, z1, z2, zb⟩
  rw [← hW3]
  clear hW3 x0 x1 x2 B z0 z1 z2 zb B3 hAo
  have hst : ∀ (X : SrF w ⟨a, b, c, d⟩ (.slice s l.length m) w3.heap.size A) (w' : World), Below X.W.heap.size X.W w' → ∃ Y : SrF w ⟨a, b, c, d⟩ (.slice s l.length m) w3.heap.size A, w' = Y.W := fun X w' hb => ⟨⟨w', X.ok.step hb⟩, rfl⟩
  have hne : Nonempty (SrF w ⟨a, b, c, d⟩ (.slice s l.length m) w3.heap.size A) := ⟨⟨_, hS⟩⟩
  have r00 : ∀ X : SrF w ⟨a, b, c, d⟩ (.slice s l.length m) w3.heap.size A, X.W.cell? ⟨w3.heap.size, 0, none⟩ = some (.int .i64 (bnds ⟨a, b, c, d⟩ 0).x0) := fun X => X.ok.bk.cell 0 _ (by rw [HA.out]; rfl)
  have r01 : ∀ X : SrF w ⟨a, b, c, d⟩ (.slice s l.length m) w3.heap.size A, X.W.cell? ⟨w3.heap.size, 1, none⟩ = some (.int .i64 (bnds ⟨a, b, c, d⟩ 0).y0) := fun X => X.ok.bk.cell 1 _ (by rw [HA.out]; rfl)
  have r02 : ∀ X : SrF w ⟨a, b, c, d⟩ (.slice s l.length m) w3.heap.size A, X.W.cell? ⟨w3.heap.size, 2, none⟩ = some (.int .i64 (bnds ⟨a, b, c, d⟩ 0).x1) := fun X => X.ok.bk.cell 2 _ (by rw [HA.out]; rfl)
  have r03 : ∀ X : SrF w ⟨a, b, c, d⟩ (.slice s l.length m) w3.heap.size A, X.W.cell? ⟨w3.heap.size, 3, none⟩ = some (.int .i64 (bnds ⟨a, b, c, d⟩ 0).y1) := fun X => X.ok.bk.cell 3 _ (by rw [HA.out]; rfl)
  have r10 : ∀ X : SrF w ⟨a, b, c, d⟩ (.slice s l.length m) w3.heap.size A, X.W.cell? ⟨w3.heap.size, 4, none⟩ = some (.int .i64 (bnds ⟨a, b, c, d⟩ 1).x0) := fun X => X.ok.bk.cell 4 _ (by rw [HA.out]; rfl)
  have r11 : ∀ X : SrF w ⟨a, b, c, d⟩ (.slice s l.length m) w3.heap.size A, X.W.cell? ⟨w3.heap.size, 5, none⟩ = some (.int .i64 (bnds ⟨a, b, c, d⟩ 1).y0) := fun X => X.ok.bk.cell 5 _ (by rw [HA.out]; rfl)
  have r12 : ∀ X : SrF w ⟨a, b, c, d⟩ (.slice s l.length m) w3.heap.size A, X.W.cell? ⟨w3.heap.size, 6, none⟩ = some (.int .i64 (bnds ⟨a, b, c, d⟩ 1).x1) := fun X => X.ok.bk.cell 6 _ (by rw [HA.out]; rfl)
  have r13 : ∀ X : SrF w ⟨a, b, c, d⟩ (.slice s l.length m) w3.heap.size A, X.W.cell? ⟨w3.heap.size, 7, none⟩ = some (.int .i64 (bnds ⟨a, b, c, d⟩ 1).y1) := fun X => X.ok.bk.cell 7 _ (by rw [HA.out]; rfl)
  have p0 : ∀ X : SrF w ⟨a, b, c, d⟩ (.slice s l.length m) w3.heap.size A, X.W.cell? ⟨w.heap.size, 0, none⟩ = some (.int .i64 a) := fun X => X.ok.p.open.1
  have p1 : ∀ X : SrF w ⟨a, b, c, d⟩ (.slice s l.length m) w3.heap.size A, X.W.cell? ⟨w.heap.size, 1, none⟩ = some (.int .i64 b) := fun X => X.ok.p.open.2.1
  have p2 : ∀ X : SrF w ⟨a, b, c, d⟩ (.slice s l.length m) w3.heap.size A, X.W.cell? ⟨w.heap.size, 2, none⟩ = some (.int .i64 c) := fun X => X.ok.p.open.2.2.1
  have p3 : ∀ X : SrF w ⟨a, b, c, d⟩ (.slice s l.length m) w3.heap.size A, X.W.cell? ⟨w.heap.size, 3, none⟩ = some (.int .i64 d) := fun X => X.ok.p.open.2.2.2.1
  refine wp_region_qt (fun w' => ∃ X : SrF w ⟨a, b, c, d⟩ (.slice s l.length m) w3.heap.size A, w' = X.W) 11 (by kernel_rfl) (by kernel_rfl) ⟨⟨_, hS.step (Below.refl _ _).drew⟩, rfl⟩ ?_
  simp only [List.take_succ_cons, List.take_zero, List.drop_succ_cons, List.drop_zero]
  repeat (first | go_big_quiet_step ((first | (go_at_call 60; exact call_in (across_q _ _ _ _ _ _ _ _ _) (hst _)))) | quiet_step ((first | (go_at_call 60; exact call_in (across_q _ _ _ _ _ _ _ _ _) (hst _)))))
  refine wpQuiet_nil ?_
  intro w5 hw'
  obtain ⟨⟨W5, hS5⟩, hw''⟩ := hw'
  subst hw''
  clear hst hne r00 r01 r02 r03 r10 r11 r12 r13 p0 p1 p2 p3 hS
  obtain ⟨d10, d11, d12, d13, d14⟩ := hS5.q1.open
  obtain ⟨d20, d21, d22, d23, d24⟩ := hS5.q2.open
  have f1 := hS5.q1.free
  have f2 := hS5.q2.free
  go_upto_region 3 with fail
  obtain ⟨W6, hW6⟩ : ∃ W6, W6 = ((((((((w5.setCell ⟨w.heap.size + 1, 0, none⟩ (.int .i64 (bnds ⟨a, b, c, d⟩ 0).x0)).setCell ⟨w.heap.size + 1, 1, none⟩ (.int .i64 b)).setCell ⟨w.heap.size + 1, 2, none⟩ (.int .i64 (bnds ⟨a, b, c, d⟩ 0).x1)).setCell ⟨w.heap.size + 1, 3, none⟩ (.int .i64 d)).setCell ⟨w.heap.size + 2, 0, none⟩ (.int .i64 (bnds ⟨a, b, c, d⟩ 1).x0)).setCell ⟨w.heap.size + 2, 1, none⟩ (.int .i64 b)).setCell ⟨w.heap.size + 2, 2, none⟩ (.int .i64 (bnds ⟨a, b, c, d⟩ 1).x1)).setCell ⟨w.heap.size + 2, 3, none⟩ (.int .i64 d)) := ⟨_, rfl⟩
  have z0 : QBox W6 w.heap.size ⟨a, b, c, d⟩ (.slice s l.length m) := by rw [hW6]; exact ((hS5.p.far4 (by omega) _ _ _ _).far4 (by omega) _ _ _ _)
  have z1 : QBox W6 (w.heap.size + 1) ⟨(bnds ⟨a, b, c, d⟩ 0).x0, b, (bnds ⟨a, b, c, d⟩ 0).x1, d⟩ (.slice none 0 0) := by rw [hW6]; exact ((hS5.q1.rect4 _ _ _ _).far4 (by omega) _ _ _ _)
  have z2 : QBox W6 (w.heap.size + 2) ⟨(bnds ⟨a, b, c, d⟩ 1).x0, b, (bnds ⟨a, b, c, d⟩ 1).x1, d⟩ (.slice none 0 0) := by rw [hW6]; exact ((hS5.q2.far4 (by omega) _ _ _ _).rect4 _ _ _ _)
  have B6 : Below w.heap.size w W6 := by rw [hW6]; exact below4 (below4 hS5.below (by omega) _ _ _ _) (by omega) _ _ _ _
  rw [← hW6]
  clear hW6 hS5 d10 d11 d12 d13 d14 d20 d21 d22 d23 d24 f1 f2
  have hSr : Sr w W6.heap.size (w.heap.size + 1) (w.heap.size + 2) ⟨a, b, c, d⟩ ⟨(bnds ⟨a, b, c, d⟩ 0).x0, b, (bnds ⟨a, b, c, d⟩ 0).x1, d⟩ ⟨(bnds ⟨a, b, c, d⟩ 1).x0, b, (bnds ⟨a, b, c, d⟩ 1).x1, d⟩ (.slice s l.length m) (.slice none 0 0) (.slice none 0 0) [] [] W6 := ⟨B6, z0, z1, z2, own_nil _ _, own_nil _ _, fun g e => by simp [Value.ownBlock] at e, by omega, ⟨by omega, z1.lt⟩, ⟨by omega, z2.lt⟩, Nat.le_refl _⟩
  obtain ⟨y0, y1, y2, y3, y4⟩ := z0.open
  have hNs : w.heap.size + 2 < W6.heap.size := z2.lt
  clear B6 z1 z2
  go_upto_region 4 with fail
  clear y0 y1 y2 y3 y4 z0
  go_loopw [7] (fun v7 wr => ∃ (y : Nat) (o1 o2 : List Int) (q1 q2 : Value), y ≤ h' ∧ v7 = .int .i64 (b + (y : Int)) ∧ o1 = ((Ex.lowR a kn (Ex.cutR n' l h')).take y).flatten ∧ o2 = ((Ex.highR a kn (Ex.cutR n' l h')).take y).flatten ∧ Sr w W6.heap.size (w.heap.size + 1) (w.heap.size + 2) ⟨a, b, c, d⟩ ⟨(bnds ⟨a, b, c, d⟩ 0).x0, b, (bnds ⟨a, b, c, d⟩ 0).x1, d⟩ ⟨(bnds ⟨a, b, c, d⟩ 1).x0, b, (bnds ⟨a, b, c, d⟩ 1).x1, d⟩ (.slice s l.length m) q1 q2 o1 o2 wr) (fun v7 _ => (d - intOf v7).toNat)
  case atStart => exact ⟨0, [], [], _, _, Nat.zero_le _, by simp, by simp, by simp, hSr⟩
  case round =>
    obtain ⟨y, o1, o2, q1, q2, hy, rfl, hO1, hO2, hG⟩ := hrel
    clear hSr
    by_cases hlt : y < h'
    · have hyi : b + (y : Int) < d := by omega
      obtain ⟨hfwr, hrl, hle⟩ := bd_row HLn.out hfw a0 a1 n4 hlt
      have hyC : y < (Ex.cutR n' l h').length := by rw [Ex.cutR_len]; exact hlt
      have hrow : (Ex.cutR n' l h')[y] = (l.drop (y * n')).take n' := Ex.cutR_at hyC
      have hx1 : o1 ++ Ex.loF a kn (Ex.cutR n' l h')[y] = ((Ex.lowR a kn (Ex.cutR n' l h')).take (y + 1)).flatten := by
        rw [flat_next (by rw [Ex.lowR, List.length_map]; exact hyC), ← hO1]; simp [Ex.lowR]
      have hx2 : o2 ++ Ex.hiF a kn (Ex.cutR n' l h')[y] = ((Ex.highR a kn (Ex.cutR n' l h')).take (y + 1)).flatten := by
        rw [flat_next (by rw [Ex.highR, List.length_map]; exact hyC), ← hO2]; simp [Ex.highR]
      have hol : o1.length ≤ 16777216 ∧ o2.length ≤ 16777216 := by
        have hw := Ex.cutR_wide HLn.out
        rw [hO1, hO2, take_len (Ex.lowR_wide hw) (by rw [Ex.lowR, List.length_map]; omega), take_len (Ex.highR_wide hw) (by rw [Ex.highR, List.length_map]; omega)]
        have hk := Ex.cnt_le (s := a) (n := n')
        have hy4 : y ≤ 4096 := Nat.le_trans hy h4
        exact ⟨mul_4096 hy4 (Nat.le_trans hk.1 n4), mul_4096 hy4 (Nat.le_trans hk.2 n4)⟩
      have hrw : rowL ⟨a, b, c, d⟩ l (b + (y : Int)) = (l.drop (y * n')).take n' := by
        rw [(rowL_drop Hp.out (by omega) hyi).1]
        have e1 : (c - a).toNat = n' := by omega
        have e2 : (idx a b c a (b + (y : Int))).toNat = y * n' := by
          unfold idx
          rw [hn, show b + (y : Int) - b = (y : Int) by omega, show a - a = 0 by omega, Int.add_zero, ← Int.natCast_mul, Int.toNat_natCast]
        rw [e1, e2]
      have cR := fun W (q : HoldsI W s l) => row_own a b c d (b + (y : Int)) s m l W Hp.out (by omega) hyi hm q
      rw [hrow] at hx1 hx2
      rw [hrw] at cR
      obtain ⟨hol1, hol2⟩ := hol
      have HX1 : Hid _ := hx1
      have HX2 : Hid _ := hx2
      have HFW : Hid _ := hfwr
      have HRL : Hid _ := hrl
      clear hx1 hx2 hrow hyC hO1 hO2 hle hrw hfwr hrl
      generalize (l.drop (y * n')).take n' = row at *
      have g0 := hG.p
      obtain ⟨y0, y1, y2, y3, y4⟩ := g0.open
      have hd1 : ∃ k : Nat, k = y + 1 ∧ b + (y : Int) + 1 = b + (k : Int) := ⟨y + 1, rfl, by omega⟩
      go_upto_region 6 with fail
      go_upto_region 7 with (first | (go_at_call 117; (with_reducible refine (cR _ (hH.below hG.below (Nat.le_refl _))).mono ?_); rintro e w7 ⟨g7, rfl, hg7, row7, hb7⟩))
      have hG7 := hG.step hb7
      have cF := fwd_q row a kn (some ⟨g7, 0, none⟩) row.length row.length w7 hk HFW.out (fun e => by cases e) row7.holds rfl
      have t0 : row.length ≤ 4096 := by have := HRL.out; omega
      have t1 : (Ex.loF a kn row).length ≤ 4096 := by rw [Ex.loF_len]; exact Nat.le_trans Ex.cnt_le.1 t0
      have t2 : (Ex.hiF a kn row).length ≤ 4096 := by rw [Ex.hiF_len]; exact Nat.le_trans Ex.cnt_le.2 t0
      have hl1 := fun k e => (hG7.own1.lt k e).2
      have hl2 := fun k e => (hG7.own2.lt k e).2
      have hB7 : w.heap.size + 2 < w7.heap.size := Nat.lt_of_lt_of_le hNs hG7.hW
      clear y0 y1 y2 y3 y4 hG g0 cR row7 hg7 hb7
      obtain ⟨y0, y1, y2, y3, y4⟩ := hG7.p.open
      go_upto_region 8 with (first | (go_at_call 69; (with_reducible refine cF.mono ?_); rintro e w8 ⟨s1, m1, s2, m2, rfl, a1, a2, hb8, ⟨_, d1', f1'⟩, ⟨_, d2', f2'⟩⟩))
      have hG8 := hG7.step hb8
      clear y0 y1 y2 y3 y4 cF hG7 hb8
      obtain ⟨y0, y1, y2, y3, y4⟩ := hG8.q1.open
      go_wp2_with (at_builtin; refine append_holds rfl _ _ rfl W6.heap.size _ o1 rfl hG8.own1 s1 _ m1 _ rfl rfl a1 d1' (by omega) hG8.hW ?_)
      clear y0 y1 y2 y3 y4
      intro v8 w9 own9 hg9 hat9
      have own9' : w9.ownsRow W6.heap.size 3 1 v8 (o1 ++ Ex.loF a kn row).length ((o1 ++ Ex.loF a kn row).map (Value.int .i64)) := by rw [List.length_append, List.map_append]; exact own9
      have hG9 := hG8.push hg9 own9' hat9
      have z1 := hG8.q1.grown hg9 (fun e => by have := (hG8.own1.lt _ e.symm).1; omega)
      have a3 := (holds_pushL a2 hg9 f2' hl1).farW (B := w.heap.size + 1) (i := 4) f2' (by omega) v8
      obtain ⟨sv, mv, rfl⟩ := own_slice own9
      obtain ⟨y0, y1, y2, y3, y4⟩ := z1.open
      have z1f := z1.free
      clear own9 own9' hg9 hat9 hG8 a1 a2
      go_upto_region 9 with fail
      obtain ⟨W10, hW10⟩ : ∃ W10, W10 = w9.setCell ⟨w.heap.size + 1, 4, none⟩ (.slice sv (o1.length + (Ex.loF a kn row).length) mv) := ⟨_, rfl⟩
      rw [← hW10] at hG9 a3
      rw [← hW10]
      clear hW10 y0 y1 y2 y3 y4 z1f z1
      obtain ⟨y0, y1, y2, y3, y4⟩ := hG9.q2.open
      go_wp2_with (at_builtin; refine append_holds rfl _ _ rfl W6.heap.size _ o2 rfl hG9.own2 s2 _ m2 _ rfl rfl a3 d2' (by omega) hG9.hW ?_)
      clear y0 y1 y2 y3 y4
      intro v11 w11 own11 hg11 hat11
      have own11' : w11.ownsRow W6.heap.size 3 1 v11 (o2 ++ Ex.hiF a kn row).length ((o2 ++ Ex.hiF a kn row).map (Value.int .i64)) := by rw [List.length_append, List.map_append]; exact own11
      have hG12 := (hG9.swap.push hg11 own11' hat11).swap
      have z2 := hG9.q2.grown hg11 (fun e => by have := (hG9.own2.lt _ e.symm).1; omega)
      obtain ⟨sv2, mv2, rfl⟩ := own_slice own11
      obtain ⟨y0, y1, y2, y3, y4⟩ := z2.open
      have z2f := z2.free
      clear own11 own11' hg11 hat11 hG9 a3
      have wY : IntKind.i64.wrap (b + (y : Int) + 1) = b + (y : Int) + 1 := IntWalk.i64_in _ (by omega)
      go_upto_region 5 with fail
      obtain ⟨W12, hW12⟩ : ∃ W12, W12 = w11.setCell ⟨w.heap.size + 2, 4, none⟩ (.slice sv2 (o2.length + (Ex.hiF a kn row).length) mv2) := ⟨_, rfl⟩
      rw [← hW12] at hG12
      rw [← hW12]
      have HG : Hid _ := hG12
      clear hW12 y0 y1 y2 y3 y4 z2f z2 hG12
      go_wp2
      go_roundw
      case rel => exact ⟨y + 1, _, _, _, _, by omega, by simp; omega, HX1.out, HX2.out, HG.out⟩
      case measure => simp [intOf]; omega
    · obtain rfl : y = h' := Nat.le_antisymm hy (Nat.le_of_not_lt hlt)
      have hCl : (Ex.cutR n' l y).length = y := Ex.cutR_len _ _ _
      have hL : o1 = (Ex.lowR a kn (Ex.cutR n' l y)).flatten := by rw [hO1, List.take_of_length_le (by rw [Ex.lowR, List.length_map, hCl]; exact Nat.le_refl _)]
      have hR : o2 = (Ex.highR a kn (Ex.cutR n' l y)).flatten := by rw [hO2, List.take_of_length_le (by rw [Ex.highR, List.length_map, hCl]; exact Nat.le_refl _)]
      clear hO1 hO2
      subst hL hR
      have hyd : ¬ b + (y : Int) < d := by omega
      have hp1 := rowP_own hG.own1
      have hp2 := rowP_own hG.own2
      obtain ⟨W7, hW7⟩ : ∃ W7, W7 = wr := ⟨_, rfl⟩
      obtain ⟨s1, m1, rfl, l1, k1⟩ : ∃ s1 m1, q1 = .slice s1 (Ex.lowR a kn (Ex.cutR n' l y)).flatten.length m1 ∧ HoldsI wr s1 (Ex.lowR a kn (Ex.cutR n' l y)).flatten ∧ (Ex.lowR a kn (Ex.cutR n' l y)).flatten.length ≤ m1 := by
        rcases hp1.2 with ⟨e1, e2⟩ | ⟨g, m', pad, e1, _, h2, h3⟩
        · exact ⟨none, 0, by rw [e1, e2]; rfl, .inl e2, by rw [e2]; exact Nat.le_refl _⟩
        · exact ⟨_, m', e1, h2.holds, h3⟩
      obtain ⟨s2, m2, rfl, l2, k2⟩ : ∃ s2 m2, q2 = .slice s2 (Ex.highR a kn (Ex.cutR n' l y)).flatten.length m2 ∧ HoldsI wr s2 (Ex.highR a kn (Ex.cutR n' l y)).flatten ∧ (Ex.highR a kn (Ex.cutR n' l y)).flatten.length ≤ m2 := by
        rcases hp2.2 with ⟨e1, e2⟩ | ⟨g, m', pad, e1, _, h2, h3⟩
        · exact ⟨none, 0, by rw [e1, e2]; rfl, .inl e2, by rw [e2]; exact Nat.le_refl _⟩
        · exact ⟨_, m', e1, h2.holds, h3⟩
      have g1 : ∀ p, s1 = some p → w.heap.size + 2 < p.block := by
        rcases hp1.2 with ⟨e1, e2⟩ | ⟨g, m', pad, e1, hg, h2, h3⟩
        · intro p hp; rw [hp] at e1; cases e1
        · intro p hp; rw [hp] at e1; cases e1; show _ < g; omega
      have g2 : ∀ p, s2 = some p → w.heap.size + 2 < p.block := by
        rcases hp2.2 with ⟨e1, e2⟩ | ⟨g, m', pad, e1, hg, h2, h3⟩
        · intro p hp; rw [hp] at e1; cases e1
        · intro p hp; rw [hp] at e1; cases e1; show _ < g; omega
      clear hp1 hp2 hW7
      generalize (Ex.lowR a kn (Ex.cutR n' l y)).flatten = L at *
      generalize (Ex.highR a kn (Ex.cutR n' l y)).flatten = H at *
      have x0 := hG.p
      have x1 := hG.q1
      have x2 := hG.q2
      have BG := hG.below
      clear hG
      obtain ⟨y0, y1, y2, y3, y4⟩ := x0.open
      go_upto_region 10 with fail
      clear y0 y1 y2 y3 y4
      obtain ⟨d10, d11, d12, d13, d14⟩ := x1.open
      obtain ⟨d20, d21, d22, d23, d24⟩ := x2.open
      have f1 := x1.free
      have f2 := x2.free
      go_region
      all_goals
        have z1 := (x1.store (bnds ⟨a, b, c, d⟩ 0).x0 b (bnds ⟨a, b, c, d⟩ 0).x1 d (.slice s1 L.length m1)).far5 (b := w.heap.size + 2) (by omega) (.int .i64 (bnds ⟨a, b, c, d⟩ 1).x0) (.int .i64 b) (.int .i64 (bnds ⟨a, b, c, d⟩ 1).x1) (.int .i64 d) (.slice s2 H.length m2)
        have z2 := (x2.far5 (b := w.heap.size + 1) (by omega) (.int .i64 (bnds ⟨a, b, c, d⟩ 0).x0) (.int .i64 b) (.int .i64 (bnds ⟨a, b, c, d⟩ 0).x1) (.int .i64 d) (.slice s1 L.length m1)).store (bnds ⟨a, b, c, d⟩ 1).x0 b (bnds ⟨a, b, c, d⟩ 1).x1 d (.slice s2 H.length m2)
        have u1 := ((l1.but (but5 (b := w.heap.size + 1) (.int .i64 (bnds ⟨a, b, c, d⟩ 0).x0) (.int .i64 b) (.int .i64 (bnds ⟨a, b, c, d⟩ 0).x1) (.int .i64 d) (.slice s1 L.length m1)) fun p e => by have := g1 p e; omega).but (but5 (b := w.heap.size + 2) (.int .i64 (bnds ⟨a, b, c, d⟩ 1).x0) (.int .i64 b) (.int .i64 (bnds ⟨a, b, c, d⟩ 1).x1) (.int .i64 d) (.slice s2 H.length m2)) fun p e => by have := g1 p e; omega)
        have u2 := ((l2.but (but5 (b := w.heap.size + 1) (.int .i64 (bnds ⟨a, b, c, d⟩ 0).x0) (.int .i64 b) (.int .i64 (bnds ⟨a, b, c, d⟩ 0).x1) (.int .i64 d) (.slice s1 L.length m1)) fun p e => by have := g2 p e; omega).but (but5 (b := w.heap.size + 2) (.int .i64 (bnds ⟨a, b, c, d⟩ 1).x0) (.int .i64 b) (.int .i64 (bnds ⟨a, b, c, d⟩ 1).x1) (.int .i64 d) (.slice s2 H.length m2)) fun p e => by have := g2 p e; omega)
        have BZ := below5 (below5 BG (b := w.heap.size + 1) (by omega) (.int .i64 (bnds ⟨a, b, c, d⟩ 0).x0) (.int .i64 b) (.int .i64 (bnds ⟨a, b, c, d⟩ 0).x1) (.int .i64 d) (.slice s1 L.length m1)) (b := w.heap.size + 2) (by omega) (.int .i64 (bnds ⟨a, b, c, d⟩ 1).x0) (.int .i64 b) (.int .i64 (bnds ⟨a, b, c, d⟩ 1).x1) (.int .i64 d) (.slice s2 H.length m2)
        obtain ⟨p0, p1, p2, p3, p4⟩ := z1.open
        obtain ⟨r0, r1, r2, r3, r4⟩ := z2.open
        go_wp2
        refine bodyPost_ret (v := .tuple #[.agg #[.int .i64 (bnds ⟨a, b, c, d⟩ 0).x0, .int .i64 b, .int .i64 (bnds ⟨a, b, c, d⟩ 0).x1, .int .i64 d, .slice s1 L.length m1], .agg #[.int .i64 (bnds ⟨a, b, c, d⟩ 1).x0, .int .i64 b, .int .i64 (bnds ⟨a, b, c, d⟩ 1).x1, .int .i64 d, .slice s2 H.length m2]]) ?_ rfl ?_
        · simp [results, Try.results71, go_sem, p0, p1, p2, p3, p4, r0, r1, r2, r3, r4]
        · exact ⟨s1, m1, s2, m2, rfl, u1.drew, u2.drew, BZ.drew, k1, k2, fun p e => by have := g1 p e; omega, fun p e => by have := g2 p e; omega⟩
end Go.Proofs.Ytnfnidgabgdphaa
