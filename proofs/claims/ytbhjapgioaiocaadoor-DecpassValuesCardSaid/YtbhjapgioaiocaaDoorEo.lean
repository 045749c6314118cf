/-
  Layer 15: SameSymbols and SamePasses on equal lists; the chapter's examples.
-/
import Derived.Test.YtbhjapgioaiocaaDoorEn
import Derived.Laws.StructEq
set_option maxRecDepth 100000
namespace Go.Proofs.YtbhjapgioaiocaaDoor
open Go.RowKit

def HoldsY (w : World) (s : Option Addr) (l : List Sy) : Prop := l = [] ∨ ∃ b off, s = some ⟨b, off, none⟩ ∧ ∀ k (h : k < l.length), w.cell? ⟨b, off + k * 2, none⟩ = some (.int .i64 l[k].1) ∧ w.cell? ⟨b, off + k * 2 + 1, none⟩ = some (.int .i64 l[k].2)
theorem HoldsY.call {w w1 : World} {s : Option Addr} {l : List Sy} (h : HoldsY w s l) (hb : Below w.heap.size w w1) : HoldsY w1 s l := by
  rcases h with h | ⟨b, off, rfl, hr⟩
  · exact .inl h
  · exact .inr ⟨b, off, rfl, fun k hk => ⟨(hb.cell (p := ⟨b, _, none⟩) (cell_lt (hr k hk).1)).trans (hr k hk).1, (hb.cell (p := ⟨b, _, none⟩) (cell_lt (hr k hk).2)).trans (hr k hk).2⟩⟩
theorem HoldsY.at {w : World} {s : Option Addr} {l : List Sy} (h : HoldsY w s l) {k : Nat} (hk : k < l.length) : ∃ b off, s = some ⟨b, off, none⟩ ∧ w.cell? ⟨b, off + k * 2, none⟩ = some (.int .i64 l[k].1) ∧ w.cell? ⟨b, off + k * 2 + 1, none⟩ = some (.int .i64 l[k].2) := by
  rcases h with rfl | ⟨b, off, rfl, hr⟩
  · simp at hk
  · exact ⟨b, off, rfl, hr k hk⟩
theorem own_holdsY {w : World} {base n m : Nat} {s : Option Addr} {l : List Sy} (h : w.ownsRow base 52 2 (.slice s n m) n (cellsP l)) : n = l.length ∧ HoldsY w s l := by
  have hn : n = l.length := by have := h.1; rw [cellsP_len] at this; omega
  refine ⟨hn, ?_⟩
  rcases h.2 with ⟨_, h0⟩ | ⟨g, cap, cur, he, hb, hg, hc, hm, hs, ht⟩
  · exact .inl (List.length_eq_zero_iff.1 (by omega))
  · simp at he
    obtain ⟨rfl, rfl⟩ := he
    refine .inr ⟨g, 0, rfl, fun k hk => ?_⟩
    obtain ⟨h1, h2⟩ := cellsP_at l k hk
    rw [← ht, List.getElem?_take_of_lt (by omega), Array.getElem?_toList] at h1 h2
    rw [Nat.zero_add]
    exact ⟨by simp [World.cell?, hg, h1], by simp [World.cell?, hg, h2]⟩
/-- A list of lists of symbols. -/
def HoldsZ (w : World) (s : Option Addr) (L : List (List Sy)) : Prop := L = [] ∨ ∃ b off, s = some ⟨b, off, none⟩ ∧ ∀ k (h : k < L.length), ∃ sk mk, w.cell? ⟨b, off + k, none⟩ = some (.slice sk L[k].length mk) ∧ HoldsY w sk L[k]
theorem HoldsZ.call {w w1 : World} {s : Option Addr} {L : List (List Sy)} (h : HoldsZ w s L) (hb : Below w.heap.size w w1) : HoldsZ w1 s L := by
  rcases h with h | ⟨b, off, rfl, hr⟩
  · exact .inl h
  · exact .inr ⟨b, off, rfl, fun k hk => (hr k hk).elim fun sk z => z.elim fun mk z => ⟨sk, mk, (hb.cell (p := ⟨b, _, none⟩) (cell_lt z.1)).trans z.1, z.2.call hb⟩⟩
theorem HoldsZ.at {w : World} {s : Option Addr} {L : List (List Sy)} (h : HoldsZ w s L) {k : Nat} (hk : k < L.length) : ∃ b off sk mk, s = some ⟨b, off, none⟩ ∧ w.cell? ⟨b, off + k, none⟩ = some (.slice sk L[k].length mk) ∧ HoldsY w sk L[k] := by
  rcases h with rfl | ⟨b, off, rfl, hr⟩
  · simp at hk
  · obtain ⟨sk, mk, z⟩ := hr k hk
    exact ⟨b, off, sk, mk, rfl, z⟩
theorem ss_holds {w W : World} {v : Value} {L : List (List Sy)} (H : SsAt w W v L) : ∃ s m, v = .slice s L.length m ∧ HoldsZ W s L := by
  obtain ⟨vs, h1, h2, h3⟩ := H.ex
  obtain ⟨s, m, rfl⟩ := own_slice h2
  refine ⟨s, m, rfl, ?_⟩
  rcases Nat.eq_zero_or_pos L.length with h0 | hp
  · exact .inl (List.length_eq_zero_iff.1 h0)
  · obtain ⟨g, rfl, _⟩ := own_at h2 0 hp
    refine .inr ⟨g, 0, rfl, fun k hk => ?_⟩
    obtain ⟨g', e, hc, _⟩ := own_at h2 k hk
    cases e
    have hv := h3 k (by omega) hk
    obtain ⟨sk, mk, e⟩ := own2_slice hv
    rw [e] at hv
    refine ⟨sk, mk, ?_, (own_holdsY hv).2⟩
    rw [Nat.zero_add, hc, List.getElem?_eq_getElem (by omega), e]
theorem fieldsSy : (Tryd.prog.fieldsOf 52).toList = [⟨"Context", 3, 0, false, "", "", 0⟩, ⟨"Bit", 3, 1, false, "", "", 8⟩] := by kernel_rfl
theorem eqSy (a b : Int) (w : World) : (Op.equalIn 10000 52 (.agg #[.int .i64 a, .int .i64 b]) (.agg #[.int .i64 a, .int .i64 b])).run Tryd.prog w = .ok true w := by
  have hu : Tryd.prog.underlying 52 = some (.struct (Tryd.prog.fieldsOf 52)) := by kernel_rfl
  have hp : Tryd.prog.stoodInHeld 52 = false := by kernel_rfl
  have h3 : Tryd.prog.underlying 3 = some (.int .i64) := by kernel_rfl
  have he := fun (x y : Int) => run_equalIn_int (P := Tryd.prog) w 9998 3 .i64 .i64 x y h3
  rw [run_equalIn_struct _ _ _ _ _ hu hp, fieldsSy]
  simp only [Op.eqFields, part]
  simp [he]
theorem sameS_t (w : World) (l : List Sy) (s t : Option Addr) (m k : Nat) (ha : HoldsY w s l) (hb : HoldsY w t l) (hl : l.length ≤ 1000000000) :
    Calls Tryd.prog 20 #[.slice s l.length m, .slice t l.length k] w fun e w' => e = .returned (.bool true) ∧ Dn w w' := by
  have HA := Lib.hid ha
  have HB := Lib.hid hb
  clear ha hb
  have heq := eqSy
  go_enter Tryd.func20, Tryd.ntmps20
  go_wp2_with fail
  go_loopw [13] (fun i wr => ∃ j : Nat, j ≤ l.length ∧ i = .int .i64 (j : Int) ∧ Hid (Dn w wr)) (fun i _ => l.length - (intOf i).toNat)
  case atStart => exact ⟨0, Nat.zero_le _, rfl, dn_refl _⟩
  case round =>
    obtain ⟨j, hj, rfl, hW⟩ := hrel
    by_cases hlt : j < l.length
    · obtain ⟨g, o1, rfl, hc, hd⟩ := (HA.out.call hW.out.below).at hlt
      obtain ⟨g2, o2, rfl, hc2, hd2⟩ := (HB.out.call hW.out.below).at hlt
      generalize l[j].1 = x at *
      generalize l[j].2 = y at *
      have wj : IntKind.i64.wrap ((j : Int) + 1) = ((j + 1 : Nat) : Int) := by rw [IntWalk.i64_left]; unfold wrap64; omega
      go_wp2_with fail
      go_quiet (fail)
      go_wp2_with fail
      go_roundw
      case rel => exact ⟨j + 1, by omega, by go_num, dn_trans hW.out (dn_mk _ _)⟩
      case measure => simp [intOf]; omega
    · obtain rfl : j = l.length := by omega
      go_wp2_with fail
      go_ret
      exact ⟨rfl, hW.out⟩
theorem samePs_t (w : World) (L : List (List Sy)) (s t : Option Addr) (m k : Nat) (ha : HoldsZ w s L) (hb : HoldsZ w t L) (hl : L.length ≤ 1000000000) (hs : ∀ l ∈ L, l.length ≤ 1000000000) :
    Calls Tryd.prog 24 #[.slice s L.length m, .slice t L.length k] w fun e w' => e = .returned (.bool true) ∧ Dn w w' := by
  have HA := Lib.hid ha
  have HB := Lib.hid hb
  have HS := Lib.hid hs
  clear ha hb hs
  go_enter Tryd.func24, Tryd.ntmps24
  go_wp2_with fail
  go_loopw [13] (fun i wr => ∃ j : Nat, j ≤ L.length ∧ i = .int .i64 (j : Int) ∧ Hid (Dn w wr)) (fun i _ => L.length - (intOf i).toNat)
  case atStart => exact ⟨0, Nat.zero_le _, rfl, dn_refl _⟩
  case round =>
    obtain ⟨j, hj, rfl, hW⟩ := hrel
    by_cases hlt : j < L.length
    · have hmem := HS.out _ (List.getElem_mem hlt)
      obtain ⟨g, o1, sk, mk, rfl, hc, hd⟩ := (HA.out.call hW.out.below).at hlt
      obtain ⟨g2, o2, sk2, mk2, rfl, hc2, hd2⟩ := (HB.out.call hW.out.below).at hlt
      generalize L[j] = l at *
      have ks := fun n => sameS_t (wr.drewN n) l sk sk2 mk mk2 (hd.call (drewN_below _ _)) (hd2.call (drewN_below _ _)) hmem
      have wj : IntKind.i64.wrap ((j : Int) + 1) = ((j + 1 : Nat) : Int) := by rw [IntWalk.i64_left]; unfold wrap64; omega
      clear hd hd2 hmem
      generalize l.length = ln at *
      go_wp2_with fail
      go_quiet ((go_at_call 20; exact Calls.quiet_of (ks _)))
      go_wp2_with fail
      go_roundw
      case rel => exact ⟨j + 1, by omega, by go_num, dn_trans hW.out (dn_mk _ _)⟩
      case measure => simp [intOf]; omega
    · obtain rfl : j = L.length := by omega
      go_wp2_with fail
      go_ret
      exact ⟨rfl, hW.out⟩
def exL : List (List Sy) := [[(17, 1), (18, 1), (18, 0), (9, 0), (3, 0)], [(3, 0), (3, 1), (10, 0)], [(15, 1)], [(0, 0)]]
def mo0 : Mo := ⟨false, false, false, false, false⟩
theorem exP : plnN [0, 0, 3, 1] = 2 ∧ plnN [0, 0] = 0 ∧ plnN [5, -8] = 4 := by decide +kernel
theorem exS : symL 1 4 ((2 : Nat) : Int) 0 mo0 (setV 1 4 [0, 0, 3, 1] 4) 4 = exL := by decide +kernel
theorem pair_new (w : World) (l : List Sy) (cs : Array Value) (hcs : cs = (cellsP l).toArray) : HoldsY (w.alloc (.cells cs 52)) (some ⟨w.heap.size, 0, none⟩) l := by
  subst hcs
  refine .inr ⟨_, 0, rfl, fun k hk => ?_⟩
  obtain ⟨h1, h2⟩ := cellsP_at l k hk
  have hb := Blk.new w 52 (cellsP l).toArray
  rw [Nat.zero_add]
  exact ⟨(hb.cell _).trans (by simpa using h1), (hb.cell _).trans (by simpa using h2)⟩
/-- The chapter's list, laid by the law. -/
def exW (w : World) : World := ((((w.alloc (.cells #[.int .i64 17, .int .i64 1, .int .i64 18, .int .i64 1, .int .i64 18, .int .i64 0, .int .i64 9, .int .i64 0, .int .i64 3, .int .i64 0] 52)).alloc (.cells #[.int .i64 3, .int .i64 0, .int .i64 3, .int .i64 1, .int .i64 10, .int .i64 0] 52)).alloc (.cells #[.int .i64 15, .int .i64 1] 52)).alloc (.cells #[.int .i64 0, .int .i64 0] 52)).alloc (.cells #[.slice (some ⟨w.heap.size, 0, none⟩) 5 5, .slice (some ⟨w.heap.size + 1, 0, none⟩) 3 3, .slice (some ⟨w.heap.size + 1 + 1, 0, none⟩) 1 1, .slice (some ⟨w.heap.size + 1 + 1 + 1, 0, none⟩) 1 1] 35)
theorem exW_holds (w : World) : HoldsZ (exW w) (some ⟨w.heap.size + 1 + 1 + 1 + 1, 0, none⟩) exL ∧ Below w.heap.size w (exW w) := by
  obtain ⟨w1, h1⟩ : ∃ x, x = w.alloc (.cells #[.int .i64 17, .int .i64 1, .int .i64 18, .int .i64 1, .int .i64 18, .int .i64 0, .int .i64 9, .int .i64 0, .int .i64 3, .int .i64 0] 52) := ⟨_, rfl⟩
  obtain ⟨w2, h2⟩ : ∃ x, x = w1.alloc (.cells #[.int .i64 3, .int .i64 0, .int .i64 3, .int .i64 1, .int .i64 10, .int .i64 0] 52) := ⟨_, rfl⟩
  obtain ⟨w3, h3⟩ : ∃ x, x = w2.alloc (.cells #[.int .i64 15, .int .i64 1] 52) := ⟨_, rfl⟩
  obtain ⟨w4, h4⟩ : ∃ x, x = w3.alloc (.cells #[.int .i64 0, .int .i64 0] 52) := ⟨_, rfl⟩
  obtain ⟨w5, h5⟩ : ∃ x, x = w4.alloc (.cells #[.slice (some ⟨w.heap.size, 0, none⟩) 5 5, .slice (some ⟨w.heap.size + 1, 0, none⟩) 3 3, .slice (some ⟨w.heap.size + 2, 0, none⟩) 1 1, .slice (some ⟨w.heap.size + 3, 0, none⟩) 1 1] 35) := ⟨_, rfl⟩
  have e : exW w = w5 := by rw [h5, h4, h3, h2, h1]; rfl
  have z1 : w1.heap.size = w.heap.size + 1 := by rw [h1, alloc_size]
  have z2 : w2.heap.size = w.heap.size + 2 := by rw [h2, alloc_size, z1]
  have z3 : w3.heap.size = w.heap.size + 3 := by rw [h3, alloc_size, z2]
  have z4 : w4.heap.size = w.heap.size + 4 := by rw [h4, alloc_size, z3]
  have b1 : Below w.heap.size w w1 := by rw [h1]; exact below_alloc (Below.refl _ _) _
  have b2 : Below w1.heap.size w1 w2 := by rw [h2]; exact below_alloc (Below.refl _ _) _
  have b3 : Below w2.heap.size w2 w3 := by rw [h3]; exact below_alloc (Below.refl _ _) _
  have b4 : Below w3.heap.size w3 w4 := by rw [h4]; exact below_alloc (Below.refl _ _) _
  have b5 : Below w4.heap.size w4 w5 := by rw [h5]; exact below_alloc (Below.refl _ _) _
  have y1 : HoldsY w1 (some ⟨w.heap.size, 0, none⟩) [(17, 1), (18, 1), (18, 0), (9, 0), (3, 0)] := by rw [h1]; exact pair_new w _ _ rfl
  have y2 : HoldsY w2 (some ⟨w.heap.size + 1, 0, none⟩) [(3, 0), (3, 1), (10, 0)] := by rw [h2, ← z1]; exact pair_new w1 _ _ rfl
  have y3 : HoldsY w3 (some ⟨w.heap.size + 2, 0, none⟩) [(15, 1)] := by rw [h3, ← z2]; exact pair_new w2 _ _ rfl
  have y4 : HoldsY w4 (some ⟨w.heap.size + 3, 0, none⟩) [(0, 0)] := by rw [h4, ← z3]; exact pair_new w3 _ _ rfl
  have hb : Blk w5 (w.heap.size + 4) 35 #[.slice (some ⟨w.heap.size, 0, none⟩) 5 5, .slice (some ⟨w.heap.size + 1, 0, none⟩) 3 3, .slice (some ⟨w.heap.size + 2, 0, none⟩) 1 1, .slice (some ⟨w.heap.size + 3, 0, none⟩) 1 1] := by rw [h5, ← z4]; exact Blk.new _ _ _
  rw [e]
  refine ⟨.inr ⟨_, 0, rfl, fun k hk => ?_⟩, below_call (below_call (below_call (below_call b1 b2) b3) b4) b5⟩
  have hk4 : k < 4 := hk
  match k, hk4 with
  | 0, _ => exact ⟨_, _, hb.cell 0, (((y1.call b2).call b3).call b4).call b5⟩
  | 1, _ => exact ⟨_, _, hb.cell 1, ((y2.call b3).call b4).call b5⟩
  | 2, _ => exact ⟨_, _, hb.cell 2, (y3.call b4).call b5⟩
  | 3, _ => exact ⟨_, _, hb.cell 3, y4.call b5⟩
instance (a : Int) : Decidable (i64R a) := by unfold i64R; infer_instance
theorem ss_holdsn {w W : World} {v : Value} {L : List (List Sy)} (n : Nat) (hn : L.length = n) (H : SsAt w W v L) : ∃ s m, v = .slice s n m ∧ HoldsZ W s L := by subst hn; exact ss_holds H
set_option maxHeartbeats 4000000 in
theorem ex15_c (W : World) (hT : Cx.Tabs W) : Calls Tryd.prog 16 #[] W fun e w' => e = .returned (.bool true) ∧ Below W.heap.size W w' := by
  have k1 : ∀ w1, Below W.heap.size W w1 → Calls Tryd.prog 22 #[.slice (some ⟨w1.heap.size, 0, none⟩) 4 4, .int .i64 1, .int .i64 4, .int .i64 0, .agg #[.bool false, .bool false, .bool false, .bool false, .bool false]] (w1.alloc (.cells #[.int .i64 0, .int .i64 0, .int .i64 3, .int .i64 1] 3)) (SGv (w1.alloc (.cells #[.int .i64 0, .int .i64 0, .int .i64 3, .int .i64 1] 3)) 0 exL) := fun w1 hb =>
    symbols_c3 _ [0, 0, 3, 1] 4 1 4 0 mo0 _ (by decide) rfl (by decide) (holds_new _ _ rfl _ _ rfl) ((hT.below hb).below (below_alloc (Below.refl _ _) _)) (by decide) 0 exL (fun h => absurd h (by decide)) fun _ => ⟨rfl, exS.symm⟩
  have k2 : ∀ w1, Below W.heap.size W w1 → Calls Tryd.prog 22 #[.slice (some ⟨w1.heap.size, 0, none⟩) 2 2, .int .i64 2, .int .i64 1, .int .i64 0, .agg #[.bool false, .bool false, .bool false, .bool false, .bool false]] (w1.alloc (.cells #[.int .i64 0, .int .i64 0] 3)) (SGv (w1.alloc (.cells #[.int .i64 0, .int .i64 0] 3)) 0 []) := fun w1 hb =>
    symbols_c3 _ [0, 0] 2 2 1 0 mo0 _ (by decide) rfl (by decide) (holds_new _ _ rfl _ _ rfl) ((hT.below hb).below (below_alloc (Below.refl _ _) _)) (by decide) 0 [] (fun h => absurd h (by decide)) fun _ => ⟨rfl, by rw [exP.2.1]; rfl⟩
  have k3 : ∀ w1 : World, Calls Tryd.prog 22 #[.slice (some ⟨w1.heap.size, 0, none⟩) 1 1, .int .i64 2, .int .i64 1, .int .i64 0, .agg #[.bool false, .bool false, .bool false, .bool false, .bool false]] (w1.alloc (.cells #[.int .i64 0] 3)) (SGv (w1.alloc (.cells #[.int .i64 0] 3)) 4 []) := fun w1 =>
    symbols_c1 _ [0] 1 2 1 0 mo0 _ (by decide) (by decide)
  have k4 : ∀ w1 : World, Calls Tryd.prog 25 #[.slice (some ⟨w1.heap.size, 0, none⟩) 2 2] (w1.alloc (.cells #[.int .i64 5, .int .i64 (-8)] 3)) fun e w' => e = .returned (.int .i64 4) ∧ w1.alloc (.cells #[.int .i64 5, .int .i64 (-8)] 3) = w' := fun w1 => by
    have := planes_c _ [5, -8] 2 (w1.alloc (.cells #[.int .i64 5, .int .i64 (-8)] 3)) (holds_new _ _ rfl _ _ rfl) (by decide) (by decide)
    rw [exP.2.2] at this
    exact this
  have hB0 := Lib.hid (Below.refl W.heap.size W)
  have AL := fun {w1 : World} (X : Obj) (hb : Below W.heap.size W w1) => below_alloc hb X
  clear hT
  go_enter Tryd.func16, Tryd.ntmps16
  go_wp2_with (first | (go_at_call 22; first | ((with_reducible refine (k1 _ hB0.out).mono ?_); rintro e wa ⟨va, rfl, hS, hb⟩; obtain ⟨sa, ma, rfl, ha⟩ := ss_holdsn 4 rfl hS; have SA := Lib.hid ha; clear ha; have BA := Lib.hid (below_call (AL _ hB0.out) hb); clear hS hb) | ((with_reducible refine (k2 _ BA.out).mono ?_); rintro e wb ⟨vb, rfl, hS, hb⟩; obtain ⟨sb, mb, rfl, _⟩ := ss_holdsn 0 rfl hS; have HAB := Lib.hid (below_call (below_alloc (Below.refl _ wa) (.cells #[.int .i64 0, .int .i64 0] 3)) hb); have BB := Lib.hid (below_call (AL _ BA.out) hb); clear hS hb) | ((with_reducible refine (k3 _).mono ?_); rintro e wc ⟨vc, rfl, hS, hb⟩; have HBC := Lib.hid (below_call (below_alloc (Below.refl _ wb) (.cells #[.int .i64 0] 3)) hb); have BC := Lib.hid (below_call (AL _ BB.out) hb); clear hS hb)))
  have kS := fun {w1 : World} {t : Option Addr} (k : Nat) (h1 : HoldsZ w1 sa exL) (h2 : HoldsZ w1 t exL) => samePs_t w1 exL sa t ma k h1 h2 (by decide) (by decide)
  obtain ⟨hZ, hb5⟩ := exW_holds wc
  have kS1 := kS 4 (((SA.out.call HAB.out).call HBC.out).call hb5) hZ
  have HB5 := Lib.hid (below_call BC.out hb5)
  clear hZ hb5 kS k1 k2 k3 AL hB0
  go_wp2_with (first | (go_at_call 24; refine Calls.mono (show Calls Tryd.prog 24 #[.slice sa 4 ma, .slice (some ⟨wc.heap.size + 1 + 1 + 1 + 1, 0, none⟩) 4 4] (exW wc) _ from kS1) ?_; rintro e wd ⟨rfl, hd⟩; have HD := Lib.hid (below_call HB5.out hd.below); clear hd) | (go_at_call 25; (with_reducible refine (k4 _).mono ?_); rintro e wn ⟨rfl, rfl⟩))
  go_ret
  exact ⟨rfl, below_alloc HD.out _⟩
end Go.Proofs.YtbhjapgioaiocaaDoor
