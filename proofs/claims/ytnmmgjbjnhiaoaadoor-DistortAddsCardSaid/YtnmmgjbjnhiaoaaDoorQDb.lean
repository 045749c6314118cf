/-
  Layer 11, the code's decoder: NewDecoder, Start, Decode, Reset.
-/
import Derived.Test.YtnmmgjbjnhiaoaaDoorQDa
import Derived.Test.YtnmmgjbjnhiaoaaDoorQEe2
set_option maxRecDepth 100000
namespace Go.Proofs.YtnmmgjbjnhiaoaaDoor
open Go.RowKit

/-- A decoder of which no codeword has begun. -/
def D0 (w : World) (B a : Nat) (P : List Int) : Prop := ∃ pv, DkC w B a pv none 0 P [] 0 0
/-- A decoder in a codeword. -/
def Ds (w : World) (B a : Nat) (x : Am.X) (D : List Int) : Prop := ∃ pv s m, DkC w B a pv s m x.1 (D.drop (x.2.n + 4)) (Am.num D (x.2.n + 4) - x.2.lo) x.2.rg
section
variable {w w1 : World} {B B' a b : Nat} {P D : List Int} {x : Am.X}
theorem DkC.lower {pv : Value} {s : Option Addr} {m : Nat} {bs : List Int} {v rg : Int} (h : DkC w B a pv s m P bs v rg) (hB : B' ≤ B) : DkC w B' a pv s m P bs v rg :=
  ⟨h.core.lower hB, own_lower h.ps hB, h.rest, h.cap, fun p hp => ⟨Nat.le_trans hB (h.u8 p hp).1, (h.u8 p hp).2⟩⟩
theorem D0.fl (h : D0 w B a P) : ∀ k, Fp w a k → k < w.heap.size := h.elim fun _ h => h.core.fl
theorem D0.fp (h : D0 w B a P) : ∀ k, Fp w a k → B ≤ k ∧ k < w.heap.size := h.elim fun _ h => h.core.fp
theorem D0.keep (h : D0 w B a P) (hk : ∀ k, Fp w a k → w1.heap[k]? = w.heap[k]?) : D0 w1 B a P := h.elim fun pv h => ⟨pv, h.keep hk⟩
theorem D0.below (h : D0 w B a P) (hb : Below w.heap.size w w1) : D0 w1 B a P := h.keep fun k hk => hb.block k (h.fl k hk)
theorem D0.kp (h : D0 w B b P) (hd : Dj w a b) (hk : Kp a w w1) : D0 w1 B b P ∧ Dj w1 a b := ⟨h.keep (hd.kp hk h.fl).2, (hd.kp hk h.fl).1⟩
theorem D0.lower (h : D0 w B a P) (hB : B' ≤ B) : D0 w B' a P := h.elim fun pv h => ⟨pv, h.lower hB⟩
theorem D0.out (h : D0 w B a P) (k : Kp a w w1) : Below B w w1 := h.elim fun _ h => h.core.out k
theorem Ds.fl (h : Ds w B a x D) : ∀ k, Fp w a k → k < w.heap.size := by obtain ⟨_, _, _, h⟩ := h; exact h.core.fl
theorem Ds.lt (h : Ds w B a x D) : a < w.heap.size := by obtain ⟨_, _, _, h⟩ := h; exact h.core.lt
theorem Ds.keep (h : Ds w B a x D) (hk : ∀ k, Fp w a k → w1.heap[k]? = w.heap[k]?) : Ds w1 B a x D := by obtain ⟨pv, s, m, h⟩ := h; exact ⟨pv, s, m, h.keep hk⟩
theorem Ds.below (h : Ds w B a x D) (hb : Below w.heap.size w w1) : Ds w1 B a x D := h.keep fun k hk => hb.block k (h.fl k hk)
theorem Ds.kp (h : Ds w B b x D) (hd : Dj w a b) (hk : Kp a w w1) : Ds w1 B b x D ∧ Dj w1 a b := ⟨h.keep (hd.kp hk h.fl).2, (hd.kp hk h.fl).1⟩
theorem Ds.out (h : Ds w B a x D) (k : Kp a w w1) : Below B w w1 := by obtain ⟨_, _, _, h⟩ := h; exact h.core.out k
end
theorem dnew_y (n : Nat) (w : World) (h1 : 1 ≤ n) (h2 : n ≤ 64) : Calls Tryd.prog 55 #[.int .i64 (n : Int)] w fun e w' => ∃ a, e = .returned (.tuple #[.pointer (some ⟨a, 0, none⟩), .int .i64 0]) ∧ D0 w' w.heap.size a (List.replicate n 2048) ∧ Below w.heap.size w w' := by
  have hm := newModel_y n w h1 h2
  go_enter Tryd.func55, Tryd.ntmps55
  go_wp2_with fail
  refine hm.mono ?_
  rintro e w1 ⟨g, rfl, ho, hb⟩
  have HO := Lib.hid ho
  have HB := Lib.hid hb
  have hsz := hb.size
  clear hm ho hb
  go_wp2_with fail
  go_ret2
  obtain ⟨W2, hW2⟩ : ∃ W2, W2 = w1.alloc (.cells #[.slice (some ⟨g, 0, none⟩) n n] 96) := ⟨_, rfl⟩
  have hA : Below w1.heap.size w1 W2 := by rw [hW2]; exact (Below.refl _ _).alloc (Nat.le_refl _) _
  have hs2 : W2.heap.size = w1.heap.size + 1 := by rw [hW2]; simp
  have ho2 := own_below HO.out hA
  rw [← hW2, ← hs2]
  have hA3 := (Below.refl W2.heap.size W2).alloc (Nat.le_refl _) (.cells #[.slice (some ⟨g, 0, none⟩) n n, .pointer (some ⟨W2.heap.size, 0, none⟩), .slice none 0 0, .int .u64 0, .int .u64 0] 100)
  have b3 := Blk.new W2 100 #[.slice (some ⟨g, 0, none⟩) n n, .pointer (some ⟨W2.heap.size, 0, none⟩), .slice none 0 0, .int .u64 0, .int .u64 0]
  have ho3 := own_below ho2 hA3
  have hws : w.heap.size ≤ W2.heap.size := by omega
  exact ⟨_, rfl, ⟨.slice (some ⟨g, 0, none⟩) n n, core_sub hws b3 (by decide) (by decide) ho3 (fun k hk => by simp [Value.ownBlock] at hk) rfl rfl rfl, by rw [List.length_replicate]; exact ho3, .inl rfl, Nat.le_refl _, fun p hp => by simp at hp⟩, below_call (below_call HB.out hA) hA3⟩
theorem dnew_n (c : Int) (w : World) (h : ¬ (1 ≤ c ∧ c ≤ 64)) : Calls Tryd.prog 55 #[.int .i64 c] w fun e w' => e = .returned (.tuple #[.pointer none, .int .i64 2]) ∧ Below w.heap.size w w' := by
  have hm := newModel_n c w h
  go_enter Tryd.func55, Tryd.ntmps55
  go_wp2_with fail
  refine hm.mono ?_
  rintro e w1 ⟨rfl, hb⟩
  have hsz := hb.size
  go_wp2_with fail
  go_ret2
  exact ⟨rfl, hb.alloc hsz _⟩
theorem num4 {D : List Int} (h : Am.bytes D) {k : Nat} (hk : k < 4) : 0 ≤ Am.num D k ∧ Am.num D k < 16777216 := by
  have := Am.num_bd h k
  have hp : Am.Pw k ≤ 16777216 := by
    rcases (show k = 0 ∨ k = 1 ∨ k = 2 ∨ k = 3 by omega) with rfl | rfl | rfl | rfl <;> decide
  omega
theorem fixd_drop (D : List Int) (k : Nat) (hk : 4 ≤ k) : (Am.fixd D).drop k = D.drop k := by
  unfold Am.fixd
  split
  · rw [List.drop_set_of_lt (by omega)]
  · rfl
theorem drop_getD (D : List Int) (k : Nat) : (D.drop k).getD 0 0 = D.getD k 0 := by
  rw [List.getD_eq_getElem?_getD, List.getD_eq_getElem?_getD, List.getElem?_drop, Nat.add_zero]
/-- After Start. -/
def Started (B a : Nat) (P D : List Int) (w : World) (e : Ending) (w' : World) : Prop := e = .returned (.int .i64 0) ∧ Ds w' B a (P, Am.St.init) (Am.fixd D) ∧ Kp a w w'
set_option maxHeartbeats 2000000 in
theorem start_c (w : World) (B a m0 m : Nat) (pv : Value) (s0 s : Option Addr) (P bs0 D : List Int) (v0 r0 : Int) (h : DkC w B a pv s0 m0 P bs0 v0 r0) (hH : HoldsB w s D) (hs : s = none → D = [] ∧ m = 0) (hD : Am.bytes D) (hl : D.length ≤ 1000000000) :
    Calls Tryd.prog 68 #[.pointer (some ⟨a, 0, none⟩), .slice s D.length m] w (Started B a P D w) := by
  obtain ⟨c0, c1, c2, c3, c4⟩ := h.cells
  have hcl := clone_c w D s m hH hs hl
  have H := Lib.hid h
  have HDB := Lib.hid hD
  clear h hH hs hD c0 c2 c3 c4
  go_enter Tryd.func68, Tryd.ntmps68
  go_upto_region 4 with (first | (go_at_call 80; (with_reducible refine (dmade_y _ _ c1).mono ?_); rintro e wn ⟨rfl, rfl⟩) | (go_at_call 36; (with_reducible refine hcl.mono ?_); rintro e w1 ⟨v, rfl, ho, hb⟩; have H1 := Lib.hid (H.out.below hb); have HO := Lib.hid ho; have HB := Lib.hid hb; obtain ⟨d0, d1, d2, d3, d4⟩ := H1.out.cells; have df := H1.out.core.blk.free; obtain ⟨sl, ml, hv⟩ := own_slice ho; subst hv; clear ho hb hcl))
  obtain ⟨_, s', m', he, hH1, ⟨hc1, _⟩, _⟩ := HoldsB.of_own HO.out
  simp at he
  obtain ⟨rfl, rfl⟩ := he
  have hu : ∀ p, sl = some p → w.heap.size ≤ p.block ∧ ∃ ds, Blk w1 p.block 5 ds := fun p hp => by subst hp; exact own_foot HO.out rfl
  have hBw : B ≤ w.heap.size := by have := H.out.core.lt; have := H.out.core.ge; omega
  have E1 := H1.out.sub1 sl ml D hH1 hc1 (fun p hp => ⟨Nat.le_trans hBw (hu p hp).1, (hu p hp).2⟩)
  have K1 : Kp a w (w1.setCell ⟨a, 2, none⟩ (.slice sl D.length ml)) := (Kp.of_below HB.out H.out.core.lt).put H1.out.core.lt _ fun k hk => by
    obtain ⟨p', e, rfl⟩ := own_of hk
    exact .inr (hu p' e).1
  have E2 := E1.val 0
  have E3 := E2.1.width 4294967295
  obtain ⟨W4, hW4⟩ : ∃ W4, W4 = ((w1.setCell ⟨a, 2, none⟩ (.slice sl D.length ml)).setCell ⟨a, 3, none⟩ (.int .u64 0)).setCell ⟨a, 4, none⟩ (.int .u64 4294967295) := ⟨_, rfl⟩
  have hI : Hid (∃ s m, DkC W4 B a pv s m P (D.drop 0) (Am.num D 0) 4294967295 ∧ Kp a w W4) := by
    rw [hW4]; exact ⟨sl, ml, E3.1, (K1.trans E2.2).trans E3.2⟩
  rw [← hW4]
  clear hW4 E1 K1 E2 E3 hu hH1 hc1 d0 d1 d2 d3 d4 df c1 H1 HO HB
  go_wp2_with fail
  go_loopw [19] (fun i wr => ∃ k : Nat, k ≤ 4 ∧ i = .int .i64 (k : Int) ∧ Hid (∃ s m, DkC wr B a pv s m P (D.drop k) (Am.num D k) 4294967295 ∧ Kp a w wr)) (fun i _ => 4 - (intOf i).toNat)
  case atStart => exact ⟨0, by omega, rfl, hI⟩
  case round =>
    obtain ⟨k, hk, rfl, sk, mk, hE, hK⟩ := hrel
    by_cases hlt : k < 4
    · have hb := num4 HDB.out hlt
      have ht := take_c wr B a mk pv sk P (D.drop k) (Am.num D k) 4294967295 hE hb.1 (by omega) (fun x hx => HDB.out x (List.mem_of_mem_drop hx)) (by simp; omega)
      unfold Taken at ht
      rw [List.drop_drop, drop_getD, show 256 * Am.num D k + D.getD k 0 = Am.num D (k + 1) by rfl] at ht
      have HK := Lib.hid hK
      clear hE hK hb
      go_wp2_with (first | (go_at_call 81; (with_reducible refine ht.mono ?_); rintro e x1 ⟨rfl, hE1, hK1⟩))
      go_roundw
      case rel =>
        obtain ⟨s1, m1, hE1⟩ := hE1
        exact ⟨k + 1, by omega, by go_num, s1, m1, hE1, HK.out.trans hK1⟩
      case measure => simp [intOf]; omega
    · obtain rfl : k = 4 := by omega
      obtain ⟨_, _, _, d3, _⟩ := hE.cells
      have df := hE.core.blk.free
      have HE := Lib.hid hE
      have HK := Lib.hid hK
      have hfx := Lib.hid (Am.fixd_num HDB.out)
      have hnn := (Am.num_bd HDB.out 4).1
      clear hE hK hI hlt hk
      generalize hV : Am.num D 4 = V at d3 HE hfx hnn
      have HV := Lib.hid hV
      clear hV
      by_cases hm : V ≤ 4294967294
      ·
        go_wp2_with fail
        go_ret
        have X := HE.out.val V
        refine ⟨rfl, ⟨pv, sk, mk, ?_⟩, HK.out.trans X.2⟩
        show DkC _ B a pv sk mk P ((Am.fixd D).drop 4) (Am.num (Am.fixd D) 4 - 0) 4294967295
        rw [fixd_drop D 4 (by omega), hfx.out, Int.sub_zero, show min V 4294967294 = V by omega]
        exact X.1
      · have hm2 : 4294967294 < V := by omega
        clear hm
        go_wp2_with fail
        go_ret
        have X := HE.out.val 4294967294
        refine ⟨rfl, ⟨pv, sk, mk, ?_⟩, HK.out.trans X.2⟩
        show DkC _ B a pv sk mk P ((Am.fixd D).drop 4) (Am.num (Am.fixd D) 4 - 0) 4294967295
        rw [fixd_drop D 4 (by omega), hfx.out, Int.sub_zero, show min V 4294967294 = 4294967294 by omega]
        exact X.1
end Go.Proofs.YtnmmgjbjnhiaoaaDoor
