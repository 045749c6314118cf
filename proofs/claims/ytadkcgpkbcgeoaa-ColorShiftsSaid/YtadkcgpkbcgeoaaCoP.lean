/-
  Color's functions on one plane: whether all samples lie in a range; a number added to each; level shift.
-/
import Derived.Test.YtadkcgpkbcgeoaaCoC
import Derived.Test.YtadkcgpkbcgeoaaPlnS
set_option maxRecDepth 100000
namespace Go.Proofs.Ytadkcgpkbcgeoaa
open Go.RowKit

def inB (lo hi : Int) (l : List Int) : Bool := decide (∀ v ∈ l, lo ≤ v ∧ v ≤ hi)
theorem in_iff {lo hi : Int} {l : List Int} : inB lo hi l = true ↔ ∀ v ∈ l, lo ≤ v ∧ v ≤ hi := by simp [inB]
def addL (d : Int) (l : List Int) : List Int := l.map fun v => v + d
theorem addL_len (d : Int) (l : List Int) : (addL d l).length = l.length := by simp [addL]
def mixM (d : Int) (l : List Int) (k : Nat) : List Int := addL d (l.take k) ++ l.drop k
theorem mixM_len (d : Int) (l : List Int) (k : Nat) : (mixM d l k).length = l.length := by simp [mixM, addL]; omega
theorem mixM_zero (d : Int) (l : List Int) : mixM d l 0 = l := by simp [mixM, addL]
theorem mixM_all (d : Int) (l : List Int) : mixM d l l.length = addL d l := by simp [mixM]
theorem mixM_at {d : Int} {l : List Int} {k : Nat} (hk : k < l.length) : (mixM d l k)[k]'(by rw [mixM_len]; exact hk) = l[k] := by
  have h : (addL d (l.take k)).length = k := by rw [addL_len, List.length_take]; omega
  simp only [mixM]
  rw [List.getElem_append_right (by omega)]
  simp [h]
theorem mixM_next {d : Int} {l : List Int} {k : Nat} (hk : k < l.length) : (mixM d l k).set k (l[k] + d) = mixM d l (k + 1) := by
  have h : (addL d (l.take k)).length = k := by rw [addL_len, List.length_take]; omega
  have e : l.drop k = l[k] :: l.drop (k + 1) := List.drop_eq_getElem_cons hk
  simp only [mixM]
  rw [List.set_append_right _ _ (by omega), h, Nat.sub_self, e, List.set_cons_zero, List.take_succ_eq_append_getElem hk]
  simp only [addL, List.map_append, List.map_cons, List.map_nil, List.append_assoc, List.cons_append, List.nil_append]
theorem RowP.set {w : World} {g : Nat} {l : List Int} {pad : List Value} (h : RowP w g l pad) {k : Nat} (hk : k < l.length) (v : Int) : RowP (w.setCell ⟨g, k, none⟩ (.int .i64 v)) g (l.set k v) pad := by
  unfold RowP at *
  simp only [World.setCell, Array.getElem?_modify, if_true, h, Option.map_some]
  simp [List.map_set, List.set_append_left _ _ (show k < (l.map (Value.int .i64)).length by simpa using hk)]
theorem rowP_drew {w : World} {g : Nat} {l : List Int} {pad : List Value} (h : RowP w g l pad) : RowP w.drew g l pad := h
theorem RowP.at {w : World} {g : Nat} {l : List Int} {pad : List Value} (h : RowP w g l pad) {k : Nat} (hk : k < l.length) : w.cell? ⟨g, k, none⟩ = some (.int .i64 l[k]) := by
  have := holdsI_at h.holds hk
  simpa using this
theorem RowP.free {w : World} {g : Nat} {l : List Int} {pad : List Value} (h : RowP w g l pad) (j : Nat) : w.frozen? ⟨g, j, none⟩ = false := by
  unfold RowP at h
  simp [World.frozen?, h]
structure Mv (w : World) (P Z : Nat) (rp : Pl.R) (vp : Value) (q : Pl.R) (L : List Int) (W : World) (s' : Option Addr) (cap : Nat) (B : Nat) : Prop where
  p : QBox W P rp vp
  z : QBox W Z ⟨0, 0, 0, 0⟩ (.slice none 0 0)
  part : QBox W B q (.slice s' L.length cap)
  row : L = [] ∨ ∃ g pad, s' = some ⟨g, 0, none⟩ ∧ RowP W g L pad ∧ Z < g ∧ g ≠ B
  below : Below w.heap.size w W
  hP : P < Z
  hw : w.heap.size ≤ P
  hB : Z < B
  hcap : L.length ≤ cap
theorem mvA {w w4 : World} {P Z : Nat} {rp : Pl.R} {vp : Value} {L : List Int} {s' : Option Addr} {n cap : Nat} (hP : P < Z) (hw : w.heap.size ≤ P) (p4 : QBox w4 P rp vp) (z4 : QBox w4 Z ⟨0, 0, 0, 0⟩ (.slice none 0 0)) (B4 : Below w.heap.size w w4) (hz3 : Z < n)
    (hrow : L = [] ∨ ∃ g pad, s' = some ⟨g, 0, none⟩ ∧ n ≤ g ∧ RowP w4 g L pad) (hcap : L.length ≤ cap) (a b c d : Int) :
    Mv w P Z rp vp ⟨a, b, c, d⟩ L (w4.alloc (.cells #[.int .i64 a, .int .i64 b, .int .i64 c, .int .i64 d, .slice s' L.length cap] 40)) s' cap w4.heap.size := by
  have hz := z4.lt
  refine ⟨p4.alloc _, z4.alloc _, QBox.fresh w4 a b c d s' L.length cap 40, ?_, B4.alloc (by omega) _, hP, hw, hz, hcap⟩
  rcases hrow with h | ⟨g, pad, e, hg, hr⟩
  · exact .inl h
  · exact .inr ⟨g, pad, e, hr.below ((Below.refl _ _).alloc (Nat.le_refl _) _), by omega, Nat.ne_of_lt hr.lt⟩
theorem mvB {w w4 : World} {P Z B : Nat} {rp : Pl.R} {vp : Value} {L : List Int} {s' : Option Addr} {n cap : Nat} (hP : P < Z) (hw : w.heap.size ≤ P) (hB : Z < B) (p4 : QBox w4 P rp vp) (z4 : QBox w4 Z ⟨0, 0, 0, 0⟩ (.slice none 0 0)) (q4 : QBox w4 B ⟨0, 0, 0, 0⟩ (.slice none 0 0)) (B4 : Below w.heap.size w w4) (hn : B < n)
    (hrow : L = [] ∨ ∃ g pad, s' = some ⟨g, 0, none⟩ ∧ n ≤ g ∧ RowP w4 g L pad) (hcap : L.length ≤ cap) (a b c d : Int) :
    Mv w P Z rp vp ⟨a, b, c, d⟩ L (((((w4.setCell ⟨B, 0, none⟩ (.int .i64 a)).setCell ⟨B, 1, none⟩ (.int .i64 b)).setCell ⟨B, 2, none⟩ (.int .i64 c)).setCell ⟨B, 3, none⟩ (.int .i64 d)).setCell ⟨B, 4, none⟩ (.slice s' L.length cap)) s' cap B := by
  refine ⟨p4.far5 (by omega) _ _ _ _ _, z4.far5 (by omega) _ _ _ _ _, q4.store a b c d _, ?_, below5 B4 (by omega) _ _ _ _ _, hP, hw, hB, hcap⟩
  rcases hrow with h | ⟨g, pad, e, hg, hr⟩
  · exact .inl h
  · exact .inr ⟨g, pad, e, hr.far5 (by omega) _ _ _ _ _, by omega, by omega⟩
theorem Mv.set {w W : World} {P Z B g : Nat} {rp q : Pl.R} {vp : Value} {L : List Int} {cap : Nat} {pad : List Value} (h : Mv w P Z rp vp q L W (some ⟨g, 0, none⟩) cap B) (hr : RowP W g L pad) (hg : Z < g) (hne : g ≠ B) {k : Nat} (hk : k < L.length) (v : Int) :
    Mv w P Z rp vp q (L.set k v) (W.setCell ⟨g, k, none⟩ (.int .i64 v)) (some ⟨g, 0, none⟩) cap B := by
  have h1 := h.hP
  have h2 := h.hw
  exact ⟨h.p.far _ _ (by show P ≠ g; omega), h.z.far _ _ (by show Z ≠ g; omega), by rw [List.length_set]; exact h.part.far _ _ (Ne.symm hne), .inr ⟨g, pad, rfl, hr.set hk v, hg, hne⟩, h.below.setCell (by show w.heap.size ≤ g; omega) _, h1, h2, h.hB, by rw [List.length_set]; exact h.hcap⟩
def GivesPl (r : Pl.R) (l : List Int) (w : World) (e : Ending) (w' : World) : Prop :=
  ∃ s m, e = .returned (.agg #[.int .i64 r.x0, .int .i64 r.y0, .int .i64 r.x1, .int .i64 r.y1, .slice s l.length m]) ∧ HoldsI w' s l ∧ Below w.heap.size w w' ∧ l.length ≤ m ∧ (l = [] ∨ ∃ g, s = some ⟨g, 0, none⟩ ∧ w.heap.size ≤ g)
theorem holds_far5 {w : World} {s : Option Addr} {l : List Int} {b : Nat} (h : HoldsI w s l) (hf : l = [] ∨ ∃ g, s = some ⟨g, 0, none⟩ ∧ g ≠ b) (v0 v1 v2 v3 v4 : Value) :
    HoldsI (((((w.setCell ⟨b, 0, none⟩ v0).setCell ⟨b, 1, none⟩ v1).setCell ⟨b, 2, none⟩ v2).setCell ⟨b, 3, none⟩ v3).setCell ⟨b, 4, none⟩ v4) s l := by
  rcases hf with h0 | ⟨g, rfl, hg⟩
  · exact .inl h0
  · exact holdsI_far (holdsI_far (holdsI_far (holdsI_far (holdsI_far h _ _ hg) _ _ hg) _ _ hg) _ _ hg) _ _ hg
theorem below_pre {V W w1 : World} (h : Below V.heap.size V W) (_hb : Below W.heap.size W w1) : V.heap.size ≤ W.heap.size := h.size
set_option maxRecDepth 100000 in
set_option maxHeartbeats 2000000 in
theorem mv_q (a b c d dd : Int) (s : Option Addr) (m : Nat) (l : List Int) (w : World) (hl1 : l.length ≤ 1048576) (hH : HoldsI w s l) (hs : s = none → l.length = 0 ∧ m = 0) (hin : ∀ v ∈ l, IntKind.i64.wrap (v + dd) = v + dd) :
    Calls Try.prog 72 #[.agg #[.int .i64 a, .int .i64 b, .int .i64 c, .int .i64 d, .slice s l.length m], .int .i64 dd] w (GivesPl ⟨a, b, c, d⟩ (addL dd l) w) := by
  have p2 : QBox ((w.alloc (.cells #[.int .i64 a, .int .i64 b, .int .i64 c, .int .i64 d, .slice s l.length m] 40)).alloc (.cells #[.int .i64 0, .int .i64 0, .int .i64 0, .int .i64 0, .slice none 0 0] 40)) w.heap.size ⟨a, b, c, d⟩ (.slice s l.length m) := (QBox.fresh w a b c d s l.length m 40).alloc _
  have z2 : QBox ((w.alloc (.cells #[.int .i64 a, .int .i64 b, .int .i64 c, .int .i64 d, .slice s l.length m] 40)).alloc (.cells #[.int .i64 0, .int .i64 0, .int .i64 0, .int .i64 0, .slice none 0 0] 40)) (w.heap.size + 1) ⟨0, 0, 0, 0⟩ (.slice none 0 0) := QBox.freshAt (w.alloc (.cells #[.int .i64 a, .int .i64 b, .int .i64 c, .int .i64 d, .slice s l.length m] 40)) (w.heap.size + 1) (by simp) 0 0 0 0 none 0 0 40
  have B2 : Below w.heap.size w ((w.alloc (.cells #[.int .i64 a, .int .i64 b, .int .i64 c, .int .i64 d, .slice s l.length m] 40)).alloc (.cells #[.int .i64 0, .int .i64 0, .int .i64 0, .int .i64 0, .slice none 0 0] 40)) := ((Below.refl _ _).alloc (Nat.le_refl _) _).alloc (by simp) _
  go_enter Try.func72, Try.ntmps72
  go_upto_region 1 with fail
  generalize hw2 : (w.alloc (.cells #[.int .i64 a, .int .i64 b, .int .i64 c, .int .i64 d, .slice s l.length m] 40)).alloc (.cells #[.int .i64 0, .int .i64 0, .int .i64 0, .int .i64 0, .slice none 0 0] 40) = w2 at *
  clear hw2
  go_cut [5] (fun s5 wx => ∃ (s' : Option Addr) (cap B : Nat), s5 = .pointer (some ⟨B, 0, none⟩) ∧ Mv w w.heap.size (w.heap.size + 1) ⟨a, b, c, d⟩ (.slice s l.length m) ⟨a, b, c, d⟩ l wx s' cap B)
  case first =>
    have pA := (p2.alloc zeroP).drew
    have zA := (z2.alloc zeroP).drew
    have qA := (QBox.fresh w2 0 0 0 0 none 0 0 40).drew
    have BA := (B2.alloc (by have := p2.lt; omega) zeroP).drew
    have HA := hH.below BA (Nat.le_refl _)
    have HB := hH.below B2.drew (Nat.le_refl _)
    have hz3 := z2.lt
    have hz3' : w.heap.size + 1 < w2.drew.heap.size := hz3
    go_region_held3 (fun w' => w'.cell? ⟨w.heap.size, 0, none⟩ = some (.int .i64 a) ∧ w'.cell? ⟨w.heap.size, 1, none⟩ = some (.int .i64 b) ∧ w'.cell? ⟨w.heap.size, 2, none⟩ = some (.int .i64 c) ∧ w'.cell? ⟨w.heap.size, 3, none⟩ = some (.int .i64 d) ∧ w'.cell? ⟨w.heap.size, 4, none⟩ = some (.slice s l.length m))
      (first | (with_reducible assumption) | with_reducible exact p2.drew.open | with_reducible exact pA.open | with_reducible exact p4.open | with_reducible exact (p4.alloc _).open | with_reducible exact (p4.far5 (by omega) _ _ _ _ _).open | fail)
      (first | (go_at_call 91; first | ((with_reducible refine (clone_c _ _ l _ hl1 HB hs).mono ?_); rintro e w4 ⟨hb4, s', cap, rfl, hcap, hrow⟩; have p4 := p2.drew.below hb4; have z4 := z2.drew.below hb4; have B4 : Below w.heap.size w w4 := bcall B2.drew hb4 (by have := p2.lt; simp; omega); have q4 := True.intro) | ((with_reducible refine (clone_c _ _ l _ hl1 HA hs).mono ?_); rintro e w4 ⟨hb4, s', cap, rfl, hcap, hrow⟩; have p4 := pA.below hb4; have z4 := zA.below hb4; have q4 := qA.below hb4; obtain ⟨e0, e1, e2, e3, e4⟩ := q4.open; have g3 := q4.free; have l3 := q4.lt; have B4 : Below w.heap.size w w4 := bcall BA hb4 (by have := p2.lt; simp [World.size_alloc]; omega)); obtain ⟨k0, k1, k2, k3, k4⟩ := p4.open; clear hb4))
    · go_wp2_with fail
      go_meet
      exact ⟨s', cap, w4.heap.size, rfl, mvA (n := w2.drew.heap.size) (by omega) (Nat.le_refl _) p4 z4 B4 hz3' hrow hcap a b c d⟩
    · go_wp2_with fail
      go_meet
      exact ⟨s', cap, w2.heap.size, rfl, mvB (n := (w2.alloc zeroP).drew.heap.size) (by omega) (Nat.le_refl _) hz3 p4 z4 q4 B4 (by simp) hrow hcap a b c d⟩
  case rest =>
    obtain ⟨s', cap, B, rfl, M⟩ := hcut
    clear p2 z2 B2
    obtain ⟨d0, d1, d2, d3, d4⟩ := M.part.open
    go_wp2_with fail
    clear d0 d1 d2 d3 d4
    go_loopw [16] (fun i wr => ∃ k : Nat, k ≤ l.length ∧ i = .int .i64 k ∧ Mv w w.heap.size (w.heap.size + 1) ⟨a, b, c, d⟩ (.slice s l.length m) ⟨a, b, c, d⟩ (mixM dd l k) wr s' cap B) (fun i _ => l.length - (intOf i).toNat)
    case atStart => exact ⟨0, by omega, rfl, by rw [mixM_zero]; exact M⟩
    case round =>
      obtain ⟨k, hk, rfl, M2⟩ := hrel
      clear M
      have hlenk := mixM_len dd l k
      have r2 := M2.part
      rw [hlenk] at r2
      obtain ⟨d0, d1, d2, d3, d4⟩ := r2.open
      by_cases hlt : k < l.length
      · obtain ⟨g, pad, hs', hr, hg, hne⟩ : ∃ g pad, s' = some ⟨g, 0, none⟩ ∧ RowP wr g (mixM dd l k) pad ∧ w.heap.size + 1 < g ∧ g ≠ B := by
          rcases M2.row with h | h
          · rw [h] at hlenk; simp at hlenk; omega
          · exact h
        subst hs'
        have hi1 : (k : Int) < (l.length : Int) := by omega
        have y0 := hr.at (k := k) (by omega)
        rw [mixM_at hlt] at y0
        have y1 := hr.free k
        have M3 := M2.set hr hg hne (k := k) (by omega) (l[k] + dd)
        rw [mixM_next hlt] at M3
        have HM : Hid _ := M3
        have wv := hin _ (List.getElem_mem hlt)
        have w2 : IntKind.i64.wrap ((k : Int) + 1) = (k : Int) + 1 := i64_in' _ (by omega) (by omega)
        clear M2 M3 r2 hr hlenk
        go_wp2
        go_roundw
        case rel => exact ⟨k + 1, by omega, by go_num, HM.out⟩
        case measure => simp [intOf]; omega
      · obtain rfl : k = l.length := by omega
        have z5 := M2.z
        obtain ⟨e0, e1, e2, e3, e4⟩ := z5.open
        have g5 := z5.free
        have z5l := z5.lt
        have HM : Hid _ := M2
        clear M2 r2 hlenk
        go_wp2
        refine bodyPost_ret (v := .agg #[.int .i64 a, .int .i64 b, .int .i64 c, .int .i64 d, .slice s' l.length cap]) ?_ rfl ?_
        · obtain ⟨q0, q1, q2, q3, q4⟩ := (z5.store a b c d (.slice s' l.length cap)).open
          simp [results, Try.results72, go_sem, q0, q1, q2, q3, q4]
        · have M4 := HM.out
          rw [mixM_all] at M4
          have hc := M4.hcap
          have hB := M4.below
          rcases M4.row with h | ⟨g, pad, rfl, hr, hg, hne⟩
          · exact ⟨s', cap, by rw [addL_len], .inl h, below5 hB (by omega) _ _ _ _ _, hc, .inl h⟩
          · exact ⟨_, cap, by rw [addL_len], (hr.far5 (by omega) _ _ _ _ _).holds, below5 hB (by omega) _ _ _ _ _, hc, .inr ⟨g, rfl, by omega⟩⟩
theorem CBox.freshAt (w : World) (B : Nat) (hB : B = w.heap.size) (n : Int) (sg : Bool) (x y : Int) (t : TypeId) : CBox (w.alloc (.cells #[.int .i64 n, .bool sg, .int .i64 x, .int .i64 y] t)) B n sg x y := by subst hB; exact CBox.fresh w n sg x y t
theorem CBox.alloc {W : World} {B : Nat} {n : Int} {sg : Bool} {x y : Int} (h : CBox W B n sg x y) (X : Obj) : CBox (W.alloc X) B n sg x y := h.below ((Below.refl _ _).alloc (Nat.le_refl _) _)
theorem CBox.open {W : World} {B : Nat} {n : Int} {sg : Bool} {x y : Int} (h : CBox W B n sg x y) : W.cell? ⟨B, 0, none⟩ = some (.int .i64 n) ∧ W.cell? ⟨B, 1, none⟩ = some (.bool sg) ∧ W.cell? ⟨B, 2, none⟩ = some (.int .i64 x) ∧ W.cell? ⟨B, 3, none⟩ = some (.int .i64 y) := ⟨h.c0, h.c1, h.c2, h.c3⟩
theorem CBox.far5 {W : World} {B b : Nat} {n : Int} {sg : Bool} {x y : Int} (h : CBox W B n sg x y) (hn : B ≠ b) (v0 v1 v2 v3 v4 : Value) : CBox (((((W.setCell ⟨b, 0, none⟩ v0).setCell ⟨b, 1, none⟩ v1).setCell ⟨b, 2, none⟩ v2).setCell ⟨b, 3, none⟩ v3).setCell ⟨b, 4, none⟩ v4) B n sg x y :=
  ⟨cell_far _ (cell_far _ (cell_far _ (cell_far _ (cell_far _ h.c0 hn) hn) hn) hn) hn, cell_far _ (cell_far _ (cell_far _ (cell_far _ (cell_far _ h.c1 hn) hn) hn) hn) hn, cell_far _ (cell_far _ (cell_far _ (cell_far _ (cell_far _ h.c2 hn) hn) hn) hn) hn, cell_far _ (cell_far _ (cell_far _ (cell_far _ (cell_far _ h.c3 hn) hn) hn) hn) hn, by simpa [World.setCell] using h.lt⟩
theorem rg_zero {sg : Bool} {n : Int} (h : Co.dB n = true) : Co.rgL sg n ≤ 0 ∧ 0 ≤ Co.rgH sg n ∧ -65536 ≤ Co.rgL sg n ∧ Co.rgH sg n ≤ 65536 ∧ 0 ≤ Co.offC sg n ∧ Co.offC sg n ≤ 65536 := by
  have hd := Co.d_iff.1 h
  have pb := Co.pw (n := n.toNat - 1) (by omega)
  have pb2 := Co.pw (n := n.toNat) (by omega)
  have e : (2 : Int) ^ n.toNat = 2 * 2 ^ (n.toNat - 1) := by
    have : n.toNat = (n.toNat - 1) + 1 := by omega
    conv => lhs; rw [this]
    rw [Int.pow_succ, Int.mul_comm]
  unfold Co.rgL Co.rgH Co.offC
  rw [if_pos h, if_pos h]
  cases sg <;> simp <;> omega
set_option maxHeartbeats 1000000 in
theorem wi_q (a b c d lo hi : Int) (s : Option Addr) (m : Nat) (l : List Int) (w : World) (hp : pvB a b c d l.length = true) (h0 : lo ≤ 0) (h1 : 0 ≤ hi) (hH : HoldsI w s l) :
    Calls Try.prog 71 #[.agg #[.int .i64 a, .int .i64 b, .int .i64 c, .int .i64 d, .slice s l.length m], .int .i64 lo, .int .i64 hi] w fun e w' => e = .returned (.bool (inB lo hi l)) ∧ Below w.heap.size w w' := by
  have p := QBox.fresh w a b c d s l.length m 40
  have lp := hH.alloc (.cells #[.int .i64 a, .int .i64 b, .int .i64 c, .int .i64 d, .slice s l.length m] 40)
  have B := below_alloc (Below.refl _ w) (.cells #[.int .i64 a, .int .i64 b, .int .i64 c, .int .i64 d, .slice s l.length m] 40)
  have hl := pv_le hp
  by_cases hz : l.length = 0
  · have he : Hid (inB lo hi l = true) := by
      show _ = _
      rw [List.length_eq_zero_iff.1 hz]; simp [inB]
    have HZ : Hid (l.length = 0) := hz
    clear hz
    go_enter Try.func71, Try.ntmps71
    go_wp2_with fail
    refine (lim_no a b c d s m l _ (.inr ⟨hp, HZ.out⟩)).mono ?_
    rintro e w1 ⟨rfl, hb⟩
    replace B := below_call B hb
    go_wp2
    go_ret
    exact ⟨ret_bool (by rw [he.out]), B⟩
  · obtain ⟨hn1, hn2⟩ := mn_all (l := l) (by omega)
    obtain ⟨hx1, hx2⟩ := mx_all (l := l) (by omega)
    have hiff : inB lo hi l = true ↔ (lo ≤ mnL l ∧ mxL l ≤ hi) := by
      rw [in_iff]
      exact ⟨fun q => ⟨(q _ hn2).1, (q _ hx2).2⟩, fun q v hv => ⟨by have := hn1 v hv; omega, by have := hx1 v hv; omega⟩⟩
    have HI : Hid _ := hiff
    have hl0 : 0 < l.length := by omega
    clear hz
    have hl1 : l.length ≤ 140737488351232 := by omega
    clear hn1 hn2 hx1 hx2 hiff
    go_enter Try.func71, Try.ntmps71
    go_wp2_with fail
    refine (lim_yes a b c d s m l _ hp hl0 hl1 lp).mono ?_
    rintro e w1 ⟨rfl, hb⟩
    replace B := below_call B hb
    clear hb
    generalize mnL l = u at *
    generalize mxL l = v at *
    go_wp2
    all_goals
      go_ret
      exact ⟨ret_bool (by rw [HI.out]; simp; try omega), B⟩
set_option maxRecDepth 100000 in
set_option maxHeartbeats 4000000 in
theorem sh_no1 (a b c d n x y : Int) (sg : Bool) (s : Option Addr) (m : Nat) (l : List Int) (w : World) (hH : HoldsI w s l) (hp : pvB a b c d l.length = false) : Calls Try.prog 35 #[.agg #[.int .i64 a, .int .i64 b, .int .i64 c, .int .i64 d, .slice s l.length m], .agg #[.int .i64 n, .bool sg, .int .i64 x, .int .i64 y]] w (GivesPlane ⟨0, 0, 0, 0⟩ [] 1 w) := by
  have p := ((QBox.fresh w a b c d s l.length m 40).alloc (.cells #[.int .i64 n, .bool sg, .int .i64 x, .int .i64 y] 42)).alloc (.cells #[.int .i64 0, .int .i64 0, .int .i64 0, .int .i64 0, .slice none 0 0] 40)
  have k := (CBox.freshAt (w.alloc (.cells #[.int .i64 a, .int .i64 b, .int .i64 c, .int .i64 d, .slice s l.length m] 40)) (w.heap.size + 1) (by simp) n sg x y 42).alloc (.cells #[.int .i64 0, .int .i64 0, .int .i64 0, .int .i64 0, .slice none 0 0] 40)
  have z := QBox.freshAt ((w.alloc (.cells #[.int .i64 a, .int .i64 b, .int .i64 c, .int .i64 d, .slice s l.length m] 40)).alloc (.cells #[.int .i64 n, .bool sg, .int .i64 x, .int .i64 y] 42)) (w.heap.size + 2) (by simp) 0 0 0 0 none 0 0 40
  have B := below_alloc (below_alloc (below_alloc (Below.refl _ w) (.cells #[.int .i64 a, .int .i64 b, .int .i64 c, .int .i64 d, .slice s l.length m] 40)) (.cells #[.int .i64 n, .bool sg, .int .i64 x, .int .i64 y] 42)) (.cells #[.int .i64 0, .int .i64 0, .int .i64 0, .int .i64 0, .slice none 0 0] 40)
  have lp := ((hH.alloc (.cells #[.int .i64 a, .int .i64 b, .int .i64 c, .int .i64 d, .slice s l.length m] 40)).alloc (.cells #[.int .i64 n, .bool sg, .int .i64 x, .int .i64 y] 42)).alloc (.cells #[.int .i64 0, .int .i64 0, .int .i64 0, .int .i64 0, .slice none 0 0] 40)
  go_enter Try.func35, Try.ntmps35
  obtain ⟨k0, k1, k2, k3⟩ := k.open
  go_wp2_with fail
  clear k0 k1 k2 k3
  refine (rng_q n sg x y _).mono ?_
  rintro e w1 ⟨rfl, hb⟩
  replace p := p.below hb
  replace k := k.below hb
  replace z := z.below hb
  replace B := below_call B hb
  replace lp := lp.call hb
  clear hb
  obtain ⟨p0, p1, p2, p3, p4⟩ := p.open
  go_wp2_with fail
  clear p0 p1 p2 p3 p4
  refine (pv_c _ _ _ _ _ _ _ _).mono ?_
  rintro e w2 ⟨rfl, hb⟩
  replace p := p.below hb
  replace k := k.below hb
  replace z := z.below hb
  replace B := below_call B hb
  replace lp := lp.call hb
  clear hb
  obtain ⟨z0, z1, z2, z3, z4⟩ := z.open
  have gz := z.free
  go_wp2_with (first | (go_at_call 67; refine (dep_q _ _).mono ?_; rintro e wn ⟨rfl, hw⟩; replace hw := hw.symm; subst hw))
  refine bodyPost_ret (v := .tuple #[.agg #[.int .i64 0, .int .i64 0, .int .i64 0, .int .i64 0, .slice none 0 0], .int .i64 1]) ?_ rfl ?_
  · simp [results, Try.results35, go_sem, z0, z1, z2, z3, z4]
  · exact ⟨none, 0, rfl, .inl rfl, below5 B (by omega) _ _ _ _ _, Nat.le_refl _⟩
set_option maxRecDepth 100000 in
set_option maxHeartbeats 4000000 in
theorem sh_no2 (a b c d n x y : Int) (sg : Bool) (s : Option Addr) (m : Nat) (l : List Int) (w : World) (hH : HoldsI w s l) (hp : pvB a b c d l.length = true) (hd : Co.dB n = false) : Calls Try.prog 35 #[.agg #[.int .i64 a, .int .i64 b, .int .i64 c, .int .i64 d, .slice s l.length m], .agg #[.int .i64 n, .bool sg, .int .i64 x, .int .i64 y]] w (GivesPlane ⟨0, 0, 0, 0⟩ [] 12 w) := by
  have p := ((QBox.fresh w a b c d s l.length m 40).alloc (.cells #[.int .i64 n, .bool sg, .int .i64 x, .int .i64 y] 42)).alloc (.cells #[.int .i64 0, .int .i64 0, .int .i64 0, .int .i64 0, .slice none 0 0] 40)
  have k := (CBox.freshAt (w.alloc (.cells #[.int .i64 a, .int .i64 b, .int .i64 c, .int .i64 d, .slice s l.length m] 40)) (w.heap.size + 1) (by simp) n sg x y 42).alloc (.cells #[.int .i64 0, .int .i64 0, .int .i64 0, .int .i64 0, .slice none 0 0] 40)
  have z := QBox.freshAt ((w.alloc (.cells #[.int .i64 a, .int .i64 b, .int .i64 c, .int .i64 d, .slice s l.length m] 40)).alloc (.cells #[.int .i64 n, .bool sg, .int .i64 x, .int .i64 y] 42)) (w.heap.size + 2) (by simp) 0 0 0 0 none 0 0 40
  have B := below_alloc (below_alloc (below_alloc (Below.refl _ w) (.cells #[.int .i64 a, .int .i64 b, .int .i64 c, .int .i64 d, .slice s l.length m] 40)) (.cells #[.int .i64 n, .bool sg, .int .i64 x, .int .i64 y] 42)) (.cells #[.int .i64 0, .int .i64 0, .int .i64 0, .int .i64 0, .slice none 0 0] 40)
  have lp := ((hH.alloc (.cells #[.int .i64 a, .int .i64 b, .int .i64 c, .int .i64 d, .slice s l.length m] 40)).alloc (.cells #[.int .i64 n, .bool sg, .int .i64 x, .int .i64 y] 42)).alloc (.cells #[.int .i64 0, .int .i64 0, .int .i64 0, .int .i64 0, .slice none 0 0] 40)
  go_enter Try.func35, Try.ntmps35
  obtain ⟨k0, k1, k2, k3⟩ := k.open
  go_wp2_with fail
  clear k0 k1 k2 k3
  refine (rng_q n sg x y _).mono ?_
  rintro e w1 ⟨rfl, hb⟩
  replace p := p.below hb
  replace k := k.below hb
  replace z := z.below hb
  replace B := below_call B hb
  replace lp := lp.call hb
  clear hb
  obtain ⟨p0, p1, p2, p3, p4⟩ := p.open
  go_wp2_with fail
  clear p0 p1 p2 p3 p4
  refine (pv_c _ _ _ _ _ _ _ _).mono ?_
  rintro e w2 ⟨rfl, hb⟩
  replace p := p.below hb
  replace k := k.below hb
  replace z := z.below hb
  replace B := below_call B hb
  replace lp := lp.call hb
  clear hb
  obtain ⟨k0, k1, k2, k3⟩ := k.open
  obtain ⟨z0, z1, z2, z3, z4⟩ := z.open
  have gz := z.free
  go_wp2_with (first | (go_at_call 67; refine (dep_q _ _).mono ?_; rintro e wn ⟨rfl, hw⟩; replace hw := hw.symm; subst hw))
  refine bodyPost_ret (v := .tuple #[.agg #[.int .i64 0, .int .i64 0, .int .i64 0, .int .i64 0, .slice none 0 0], .int .i64 12]) ?_ rfl ?_
  · simp [results, Try.results35, go_sem, z0, z1, z2, z3, z4]
  · exact ⟨none, 0, rfl, .inl rfl, below5 B (by omega) _ _ _ _ _, Nat.le_refl _⟩
set_option maxRecDepth 100000 in
set_option maxHeartbeats 4000000 in
theorem sh_no3 (a b c d n x y : Int) (sg : Bool) (s : Option Addr) (m : Nat) (l : List Int) (w : World) (hH : HoldsI w s l) (hp : pvB a b c d l.length = true) (hd : Co.dB n = true) (hi : inB (Co.rgL sg n) (Co.rgH sg n) l = false) : Calls Try.prog 35 #[.agg #[.int .i64 a, .int .i64 b, .int .i64 c, .int .i64 d, .slice s l.length m], .agg #[.int .i64 n, .bool sg, .int .i64 x, .int .i64 y]] w (GivesPlane ⟨0, 0, 0, 0⟩ [] 2 w) := by
  have rz := rg_zero (sg := sg) hd
  have p := ((QBox.fresh w a b c d s l.length m 40).alloc (.cells #[.int .i64 n, .bool sg, .int .i64 x, .int .i64 y] 42)).alloc (.cells #[.int .i64 0, .int .i64 0, .int .i64 0, .int .i64 0, .slice none 0 0] 40)
  have k := (CBox.freshAt (w.alloc (.cells #[.int .i64 a, .int .i64 b, .int .i64 c, .int .i64 d, .slice s l.length m] 40)) (w.heap.size + 1) (by simp) n sg x y 42).alloc (.cells #[.int .i64 0, .int .i64 0, .int .i64 0, .int .i64 0, .slice none 0 0] 40)
  have z := QBox.freshAt ((w.alloc (.cells #[.int .i64 a, .int .i64 b, .int .i64 c, .int .i64 d, .slice s l.length m] 40)).alloc (.cells #[.int .i64 n, .bool sg, .int .i64 x, .int .i64 y] 42)) (w.heap.size + 2) (by simp) 0 0 0 0 none 0 0 40
  have B := below_alloc (below_alloc (below_alloc (Below.refl _ w) (.cells #[.int .i64 a, .int .i64 b, .int .i64 c, .int .i64 d, .slice s l.length m] 40)) (.cells #[.int .i64 n, .bool sg, .int .i64 x, .int .i64 y] 42)) (.cells #[.int .i64 0, .int .i64 0, .int .i64 0, .int .i64 0, .slice none 0 0] 40)
  have lp := ((hH.alloc (.cells #[.int .i64 a, .int .i64 b, .int .i64 c, .int .i64 d, .slice s l.length m] 40)).alloc (.cells #[.int .i64 n, .bool sg, .int .i64 x, .int .i64 y] 42)).alloc (.cells #[.int .i64 0, .int .i64 0, .int .i64 0, .int .i64 0, .slice none 0 0] 40)
  go_enter Try.func35, Try.ntmps35
  obtain ⟨k0, k1, k2, k3⟩ := k.open
  go_wp2_with fail
  clear k0 k1 k2 k3
  refine (rng_q n sg x y _).mono ?_
  rintro e w1 ⟨rfl, hb⟩
  replace p := p.below hb
  replace k := k.below hb
  replace z := z.below hb
  replace B := below_call B hb
  replace lp := lp.call hb
  clear hb
  obtain ⟨p0, p1, p2, p3, p4⟩ := p.open
  go_wp2_with fail
  clear p0 p1 p2 p3 p4
  refine (pv_c _ _ _ _ _ _ _ _).mono ?_
  rintro e w2 ⟨rfl, hb⟩
  replace p := p.below hb
  replace k := k.below hb
  replace z := z.below hb
  replace B := below_call B hb
  replace lp := lp.call hb
  clear hb
  obtain ⟨k0, k1, k2, k3⟩ := k.open
  obtain ⟨p0, p1, p2, p3, p4⟩ := p.open
  go_wp2_with (first | (go_at_call 67; refine (dep_q _ _).mono ?_; rintro e wn ⟨rfl, hw⟩; replace hw := hw.symm; subst hw))
  clear k0 k1 k2 k3 p0 p1 p2 p3 p4
  refine (wi_q a b c d _ _ _ _ l _ hp rz.1 rz.2.1 lp).mono ?_
  rintro e w3 ⟨rfl, hb⟩
  replace p := p.below hb
  replace k := k.below hb
  replace z := z.below hb
  replace B := below_call B hb
  replace lp := lp.call hb
  clear hb
  obtain ⟨z0, z1, z2, z3, z4⟩ := z.open
  have gz := z.free
  go_wp2_with (first | (go_at_call 67; refine (dep_q _ _).mono ?_; rintro e wn ⟨rfl, hw⟩; replace hw := hw.symm; subst hw))
  refine bodyPost_ret (v := .tuple #[.agg #[.int .i64 0, .int .i64 0, .int .i64 0, .int .i64 0, .slice none 0 0], .int .i64 2]) ?_ rfl ?_
  · simp [results, Try.results35, go_sem, z0, z1, z2, z3, z4]
  · exact ⟨none, 0, rfl, .inl rfl, below5 B (by omega) _ _ _ _ _, Nat.le_refl _⟩
set_option maxRecDepth 100000 in
set_option maxHeartbeats 4000000 in
theorem sh_yes (a b c d n x y : Int) (sg : Bool) (s : Option Addr) (m : Nat) (l : List Int) (w : World) (hH : HoldsI w s l) (hp : pvB a b c d l.length = true) (hd : Co.dB n = true) (hi : inB (Co.rgL sg n) (Co.rgH sg n) l = true) (hs : s = none → l.length = 0 ∧ m = 0) : Calls Try.prog 35 #[.agg #[.int .i64 a, .int .i64 b, .int .i64 c, .int .i64 d, .slice s l.length m], .agg #[.int .i64 n, .bool sg, .int .i64 x, .int .i64 y]] w (GivesPlane ⟨a, b, c, d⟩ (addL (-(Co.offC sg n)) l) 0 w) := by
  have rz := rg_zero (sg := sg) hd
  have hl1 := pv_le hp
  have hin : ∀ v ∈ l, IntKind.i64.wrap (v + -(Co.offC sg n)) = v + -(Co.offC sg n) := fun v hv => by
    have := in_iff.1 hi v hv
    exact i64_in' _ (by omega) (by omega)
  have wo : IntKind.i64.wrap (-(Co.offC sg n)) = -(Co.offC sg n) := i64_in' _ (by omega) (by omega)
  have p := ((QBox.fresh w a b c d s l.length m 40).alloc (.cells #[.int .i64 n, .bool sg, .int .i64 x, .int .i64 y] 42)).alloc (.cells #[.int .i64 0, .int .i64 0, .int .i64 0, .int .i64 0, .slice none 0 0] 40)
  have k := (CBox.freshAt (w.alloc (.cells #[.int .i64 a, .int .i64 b, .int .i64 c, .int .i64 d, .slice s l.length m] 40)) (w.heap.size + 1) (by simp) n sg x y 42).alloc (.cells #[.int .i64 0, .int .i64 0, .int .i64 0, .int .i64 0, .slice none 0 0] 40)
  have z := QBox.freshAt ((w.alloc (.cells #[.int .i64 a, .int .i64 b, .int .i64 c, .int .i64 d, .slice s l.length m] 40)).alloc (.cells #[.int .i64 n, .bool sg, .int .i64 x, .int .i64 y] 42)) (w.heap.size + 2) (by simp) 0 0 0 0 none 0 0 40
  have B := below_alloc (below_alloc (below_alloc (Below.refl _ w) (.cells #[.int .i64 a, .int .i64 b, .int .i64 c, .int .i64 d, .slice s l.length m] 40)) (.cells #[.int .i64 n, .bool sg, .int .i64 x, .int .i64 y] 42)) (.cells #[.int .i64 0, .int .i64 0, .int .i64 0, .int .i64 0, .slice none 0 0] 40)
  have lp := ((hH.alloc (.cells #[.int .i64 a, .int .i64 b, .int .i64 c, .int .i64 d, .slice s l.length m] 40)).alloc (.cells #[.int .i64 n, .bool sg, .int .i64 x, .int .i64 y] 42)).alloc (.cells #[.int .i64 0, .int .i64 0, .int .i64 0, .int .i64 0, .slice none 0 0] 40)
  go_enter Try.func35, Try.ntmps35
  obtain ⟨k0, k1, k2, k3⟩ := k.open
  go_wp2_with fail
  clear k0 k1 k2 k3
  refine (rng_q n sg x y _).mono ?_
  rintro e w1 ⟨rfl, hb⟩
  replace p := p.below hb
  replace k := k.below hb
  replace z := z.below hb
  replace B := below_call B hb
  replace lp := lp.call hb
  clear hb
  obtain ⟨p0, p1, p2, p3, p4⟩ := p.open
  go_wp2_with fail
  clear p0 p1 p2 p3 p4
  refine (pv_c _ _ _ _ _ _ _ _).mono ?_
  rintro e w2 ⟨rfl, hb⟩
  replace p := p.below hb
  replace k := k.below hb
  replace z := z.below hb
  replace B := below_call B hb
  replace lp := lp.call hb
  clear hb
  obtain ⟨k0, k1, k2, k3⟩ := k.open
  obtain ⟨p0, p1, p2, p3, p4⟩ := p.open
  go_wp2_with (first | (go_at_call 67; refine (dep_q _ _).mono ?_; rintro e wn ⟨rfl, hw⟩; replace hw := hw.symm; subst hw))
  clear k0 k1 k2 k3 p0 p1 p2 p3 p4
  refine (wi_q a b c d _ _ _ _ l _ hp rz.1 rz.2.1 lp).mono ?_
  rintro e w3 ⟨rfl, hb⟩
  replace p := p.below hb
  replace k := k.below hb
  replace z := z.below hb
  replace B := below_call B hb
  replace lp := lp.call hb
  clear hb
  go_wp2_with fail
  have e_p := fun (W : World) (h : Below w3.heap.size w3 W) => (p.below h).open
  have e_k := fun (W : World) (h : Below w3.heap.size w3 W) => (k.below h).open
  have eH := fun (W : World) (h : Below w3.heap.size w3 W) => And.intro (e_p W h) (e_k W h)
  simp only [and_assoc] at eH
  clear e_p e_k
  go_region_held3 (fun w' => w'.cell? ⟨w.heap.size, 0, none⟩ = some (.int .i64 a) ∧ w'.cell? ⟨w.heap.size, 1, none⟩ = some (.int .i64 b) ∧ w'.cell? ⟨w.heap.size, 2, none⟩ = some (.int .i64 c) ∧ w'.cell? ⟨w.heap.size, 3, none⟩ = some (.int .i64 d) ∧ w'.cell? ⟨w.heap.size, 4, none⟩ = some (.slice s l.length m) ∧ w'.cell? ⟨w.heap.size + 1, 0, none⟩ = some (.int .i64 n) ∧ w'.cell? ⟨w.heap.size + 1, 1, none⟩ = some (.bool sg) ∧ w'.cell? ⟨w.heap.size + 1, 2, none⟩ = some (.int .i64 x) ∧ w'.cell? ⟨w.heap.size + 1, 3, none⟩ = some (.int .i64 y))
    (first | (with_reducible assumption) | with_reducible exact e9 _ _ _ _ _ | with_reducible exact eH _ (by repeat (first | exact Below.refl _ _ | assumption | refine Below.drew ?_ | refine below_alloc ?_ _)) | fail)
    (first | (go_at_call 68; (with_reducible refine (off_q n sg x y _ hd).mono ?_); rintro e x1 ⟨rfl, hb⟩; have b_x1 : Below w3.heap.size w3 x1 := below_call (by repeat (first | exact Below.refl _ _ | assumption | refine Below.drew ?_ | refine below_alloc ?_ _)) hb; have s_x1 := below_pre (V := w3) (by repeat (first | exact Below.refl _ _ | assumption | refine Below.drew ?_ | refine below_alloc ?_ _)) hb; clear hb) | (go_at_call 72; (with_reducible refine (mv_q a b c d (-(Co.offC sg n)) _ _ l _ hl1 (lp.call (by repeat (first | exact Below.refl _ _ | assumption | refine Below.drew ?_ | refine below_alloc ?_ _))) hs hin).mono ?_); rintro e x2 ⟨s', m', rfl, l', hb, hm', hf⟩; have b_x2 : Below w3.heap.size w3 x2 := below_call (by repeat (first | exact Below.refl _ _ | assumption | refine Below.drew ?_ | refine below_alloc ?_ _)) hb; have s_x2 := below_pre (V := w3) (by repeat (first | exact Below.refl _ _ | assumption | refine Below.drew ?_ | refine below_alloc ?_ _)) hb; clear hb; have z9 := z.below b_x2; obtain ⟨e0, e1, e2, e3, e4⟩ := z9.open; have g9 := z9.free; have l9 := z9.lt; have e9 := fun (v0 v1 v2 v3 v4 : Value) => And.intro (((p.below b_x2).far5 (b := w.heap.size + 1 + 1) (by omega) v0 v1 v2 v3 v4).open) (((k.below b_x2).far5 (b := w.heap.size + 1 + 1) (by omega) v0 v1 v2 v3 v4).open); simp only [and_assoc] at e9))
  all_goals
    go_wp2_with fail
    refine bodyPost_ret (v := .tuple #[.agg #[.int .i64 a, .int .i64 b, .int .i64 c, .int .i64 d, .slice s' (addL (-(Co.offC sg n)) l).length m'], .int .i64 0]) ?_ rfl ?_
    · obtain ⟨q0, q1, q2, q3, q4⟩ := (z9.store a b c d (.slice s' (addL (-(Co.offC sg n)) l).length m')).open
      simp [results, Try.results35, go_sem, q0, q1, q2, q3, q4]
    · have hz := z.lt
      refine ⟨s', m', rfl, holds_far5 l' ?_ _ _ _ _ _, below5 (below_call B b_x2) (by omega) _ _ _ _ _, hm'⟩
      rcases hf with h | ⟨g, e, hg⟩
      · exact .inl h
      · exact .inr ⟨g, e, by omega⟩
end Go.Proofs.Ytadkcgpkbcgeoaa
