/-
  Layer 11, the code's encoder: its cells; begin, NewEncoder, Probability, Size, Reset, raise.
-/
import Derived.Test.YtdnfnekfcndnhaaDoorEb
set_option maxRecDepth 100000
namespace Go.Proofs.YtdnfnekfcndnhaaDoor
open Go.RowKit

/-- The code's encoder in memory: probabilities, the bytes of head, tail, range. -/
structure EcR (w : World) (B a : Nat) (pv hv : Value) (P R : List Int) (t rg : Int) : Prop where
  core : Core w B a 55 #[pv, .pointer (some ⟨a, 0, none⟩), hv, .int .u64 t, .int .u64 rg]
  ps : w.ownsRow B 3 1 pv P.length (P.map (Value.int .i64))
  hd : w.ownsRow B 5 1 hv R.length (R.map (Value.int .u8))
section
variable {w w1 : World} {B a : Nat} {pv hv : Value} {P R : List Int} {t rg : Int} {x : Am.X}
theorem EcC.r (h : EcC w B a pv hv x) : EcR w B a pv hv x.1 (Am.dig x.2.n (x.2.lo / 4294967296)) (x.2.lo % 4294967296) x.2.rg := ⟨h.core, h.ps, by rw [Am.dig_len]; exact h.hd⟩
theorem EcR.c (h : EcR w B a pv hv x.1 (Am.dig x.2.n (x.2.lo / 4294967296)) (x.2.lo % 4294967296) x.2.rg) : EcC w B a pv hv x := ⟨h.core, h.ps, by have := h.hd; rwa [Am.dig_len] at this⟩
theorem EcR.cells (h : EcR w B a pv hv P R t rg) : w.cell? ⟨a, 0, none⟩ = some pv ∧ w.cell? ⟨a, 1, none⟩ = some (.pointer (some ⟨a, 0, none⟩)) ∧ w.cell? ⟨a, 2, none⟩ = some hv ∧ w.cell? ⟨a, 3, none⟩ = some (.int .u64 t) ∧ w.cell? ⟨a, 4, none⟩ = some (.int .u64 rg) := ⟨h.core.blk.cell 0, h.core.blk.cell 1, h.core.blk.cell 2, h.core.blk.cell 3, h.core.blk.cell 4⟩
theorem EcR.keep (h : EcR w B a pv hv P R t rg) (hk : ∀ k, Fp w a k → w1.heap[k]? = w.heap[k]?) : EcR w1 B a pv hv P R t rg :=
  ⟨h.core.keep hk, own_keep h.ps fun k ho => hk k (h.core.of (i := 0) rfl ho), own_keep h.hd fun k ho => hk k (h.core.of (i := 2) rfl ho)⟩
theorem EcR.below (h : EcR w B a pv hv P R t rg) (hb : Below w.heap.size w w1) : EcR w1 B a pv hv P R t rg := h.keep fun k hk => hb.block k (h.core.fl k hk)
theorem EcR.pa (h : EcR w B a pv hv P R t rg) : pv.ownBlock ≠ some a ∧ hv.ownBlock ≠ some a := ⟨own_blk_ne h.ps h.core.blk (by decide), own_blk_ne h.hd h.core.blk (by decide)⟩
theorem EcR.apart (h : EcR w B a pv hv P R t rg) (k : Nat) (h1 : pv.ownBlock = some k) (h2 : hv.ownBlock = some k) : False := h.core.dis 0 2 pv hv k (by decide) rfl rfl h1 h2
theorem EcR.tail (h : EcR w B a pv hv P R t rg) (t' : Int) : EcR (w.setCell ⟨a, 3, none⟩ (.int .u64 t')) B a pv hv P R t' rg ∧ Kp a w (w.setCell ⟨a, 3, none⟩ (.int .u64 t')) := by
  have N := h.core.num 3 (.int .u64 t') rfl
  exact ⟨⟨by simpa using N.1, own_far h.ps ⟨a, 3, none⟩ _ h.pa.1, own_far h.hd ⟨a, 3, none⟩ _ h.pa.2⟩, N.2⟩
theorem EcR.width (h : EcR w B a pv hv P R t rg) (r' : Int) : EcR (w.setCell ⟨a, 4, none⟩ (.int .u64 r')) B a pv hv P R t r' ∧ Kp a w (w.setCell ⟨a, 4, none⟩ (.int .u64 r')) := by
  have N := h.core.num 4 (.int .u64 r') rfl
  exact ⟨⟨by simpa using N.1, own_far h.ps ⟨a, 4, none⟩ _ h.pa.1, own_far h.hd ⟨a, 4, none⟩ _ h.pa.2⟩, N.2⟩
theorem EcR.byte {g n m : Nat} (h : EcR w B a pv (.slice (some ⟨g, 0, none⟩) n m) P R t rg) (k : Nat) (v : Int) : EcR (w.setCell ⟨g, k, none⟩ (.int .u8 v)) B a pv (.slice (some ⟨g, 0, none⟩) n m) P (R.set k v) t rg ∧ Kp a w (w.setCell ⟨g, k, none⟩ (.int .u8 v)) := by
  have N := h.core.row (i := 2) (g := g) rfl rfl k (.int .u8 v)
  have hn : n = R.length := by
    have h1 := h.hd
    rcases h1.2 with ⟨h2, _⟩ | ⟨g', cap, cur, h2, _⟩
    · simp at h2
    · simp at h2; exact h2.2.1
  subst hn
  refine ⟨⟨N.1, own_far h.ps ⟨g, k, none⟩ _ (fun e => h.apart g e rfl), ?_⟩, N.2⟩
  have := own_put h.hd k (.int .u8 v)
  rw [List.length_set, List.map_set]
  exact this
theorem EcR.prob {g n m : Nat} (h : EcR w B a (.slice (some ⟨g, 0, none⟩) n m) hv P R t rg) (k : Nat) (v : Int) : EcR (w.setCell ⟨g, k, none⟩ (.int .i64 v)) B a (.slice (some ⟨g, 0, none⟩) n m) hv (P.set k v) R t rg ∧ Kp a w (w.setCell ⟨g, k, none⟩ (.int .i64 v)) := by
  have N := h.core.row (i := 0) (g := g) rfl rfl k (.int .i64 v)
  have hn : n = P.length := by
    have h1 := h.ps
    rcases h1.2 with ⟨h2, _⟩ | ⟨g', cap, cur, h2, _⟩
    · simp at h2
    · simp at h2; exact h2.2.1
  subst hn
  refine ⟨⟨N.1, ?_, own_far h.hd ⟨g, k, none⟩ _ (fun e => h.apart g rfl e)⟩, N.2⟩
  have := own_put h.ps k (.int .i64 v)
  rw [List.length_set, List.map_set]
  exact this
theorem EcR.ecr (h : EcR w B a pv hv P R t rg) {v' : Value} {w2 : World} {X : Obj} {y : Int} (hown : w2.ownsRow B 5 1 v' (R.length + 1) (R.map (Value.int .u8) ++ [.int .u8 y])) (hg : (w.alloc X).grownBy w2 hv.ownBlock) (hat : v'.ownBlock = hv.ownBlock ∨ v'.ownBlock = some (w.heap.size + 1)) :
    EcR (w2.setCell ⟨a, 2, none⟩ v') B a pv v' P (R ++ [y]) t rg ∧ Kp a w (w2.setCell ⟨a, 2, none⟩ v') ∧ Blk w2 a 55 #[pv, .pointer (some ⟨a, 0, none⟩), hv, .int .u64 t, .int .u64 rg] := by
  obtain ⟨x1, x2, x3, x4⟩ := h.core.grow (i := 2) rfl h.hd (by decide) hown hg (hat.imp id fun he k hk => by rw [he] at hk; have := Option.some.inj hk; omega)
  refine ⟨⟨by simpa using x1, ?_, by rw [List.length_append, List.length_singleton, List.map_append]; exact x2⟩, x3, x4⟩
  refine own_far (own_keep h.ps fun k ho => ?_) ⟨a, 2, none⟩ _ h.pa.1
  obtain ⟨_, ds, hb⟩ := own_foot h.ps ho
  exact (hg.block k (by have := hb.lt; simp; omega) (fun e => h.apart k ho e.symm)).trans (Below.heap_alloc w X k hb.lt)
end
/-- begin: a codeword of no bits. -/
theorem begin_c (w : World) (B a : Nat) (pv hv tv gv : Value) (P : List Int) (hB : B ≤ a) (hb : Blk w a 55 #[pv, .pointer (some ⟨a, 0, none⟩), hv, tv, gv]) (hp : w.ownsRow B 3 1 pv P.length (P.map (Value.int .i64))) :
    Calls Tryd.prog 24 #[.pointer (some ⟨a, 0, none⟩)] w fun e w' => e = .returned (.tuple #[]) ∧ EcC w' B a pv (.slice none 0 0) (P, Am.St.init) ∧ Kp a w w' ∧ w' = ((w.setCell ⟨a, 2, none⟩ (.slice none 0 0)).setCell ⟨a, 3, none⟩ (.int .u64 0)).setCell ⟨a, 4, none⟩ (.int .u64 4294967295) := by
  have c2 : w.cell? ⟨a, 2, none⟩ = some hv := hb.cell 2
  have c3 : w.cell? ⟨a, 3, none⟩ = some tv := hb.cell 3
  have c4 : w.cell? ⟨a, 4, none⟩ = some gv := hb.cell 4
  have f := hb.free
  have H := Lib.hid hb
  have HP := Lib.hid hp
  clear hb hp
  go_enter Tryd.func24, Tryd.ntmps24
  go_wp2_with fail
  go_end0
  have hpa := own_blk_ne HP.out H.out (by decide)
  have lt := H.out.lt
  have N1 := (Kp.refl a w).num lt (i := 2) (.slice none 0 0) rfl
  have N2 := N1.num (by simpa [World.setCell] using lt) (i := 3) (.int .u64 0) rfl
  have N3 := N2.num (by simpa [World.setCell] using lt) (i := 4) (.int .u64 4294967295) rfl
  have O := own_far (own_far (own_far HP.out ⟨a, 2, none⟩ (.slice none 0 0) hpa) ⟨a, 3, none⟩ (.int .u64 0) hpa) ⟨a, 4, none⟩ (.int .u64 4294967295) hpa
  have b := ((H.out.set 2 (.slice none 0 0)).set 3 (.int .u64 0)).set 4 (.int .u64 4294967295)
  simp at b
  exact ⟨rfl, ⟨core_two hB b (by decide) (by decide) O (World.ownsRow_nil _ B 5 1) rfl rfl rfl, O, World.ownsRow_nil _ _ _ _⟩, N3, rfl⟩
/-- After NewEncoder. -/
theorem enew_y (n : Nat) (w : World) (h1 : 1 ≤ n) (h2 : n ≤ 64) : Calls Tryd.prog 6 #[.int .i64 (n : Int)] w fun e w' => ∃ a, e = .returned (.tuple #[.pointer (some ⟨a, 0, none⟩), .int .i64 0]) ∧ Ec w' w.heap.size a (x0 n) ∧ Below w.heap.size w w' := by
  have hm := newModel_y n w h1 h2
  go_enter Tryd.func6, Tryd.ntmps6
  go_wp2_with fail
  refine hm.mono ?_
  rintro e w1 ⟨g, rfl, ho, hb⟩
  have HO := Lib.hid ho
  have HB := Lib.hid hb
  have hsz := hb.size
  clear hm ho hb
  go_upto_region 6 with fail
  obtain ⟨s, hs⟩ : ∃ s, s = w1.heap.size + 1 := ⟨_, rfl⟩
  obtain ⟨W2, hW2⟩ : ∃ W2, W2 = w1.alloc (.cells #[.slice (some ⟨g, 0, none⟩) n n] 50) := ⟨_, rfl⟩
  have hA : Below w1.heap.size w1 W2 := by rw [hW2]; exact (Below.refl _ _).alloc (Nat.le_refl _) _
  have hs2 : s = W2.heap.size := by rw [hW2, hs]; simp
  have ho2 := own_below HO.out hA
  rw [← hs, ← hW2]
  obtain ⟨W3, hW3⟩ : ∃ W3, W3 = W2.alloc (.cells #[.slice (some ⟨g, 0, none⟩) n n, .pointer (some ⟨s, 0, none⟩), .slice none 0 0, .int .u64 0, .int .u64 0] 55) := ⟨_, rfl⟩
  have hA3 : Below W2.heap.size W2 W3 := by rw [hW3]; exact (Below.refl _ _).alloc (Nat.le_refl _) _
  have b3 : Blk W3 s 55 #[.slice (some ⟨g, 0, none⟩) n n, .pointer (some ⟨s, 0, none⟩), .slice none 0 0, .int .u64 0, .int .u64 0] := by rw [hW3, hs2]; exact Blk.new W2 55 _
  have ho3 := own_below ho2 hA3
  have hws : w.heap.size ≤ s := by omega
  have hc := core_two hws b3 (by decide) (by decide) ho3 (World.ownsRow_nil W3 w.heap.size 5 1) rfl rfl rfl
  have hbg := begin_c W3 w.heap.size s (.slice (some ⟨g, 0, none⟩) n n) (.slice none 0 0) (.int .u64 0) (.int .u64 0) (List.replicate n 2048) hws b3 (by rw [List.length_replicate]; exact ho3)
  have HB3 := Lib.hid (below_call (below_call HB.out hA) hA3)
  have HC := Lib.hid hc
  rw [← hW3]
  clear hW3 hA3 b3 ho3 hc hW2 hA ho2 hs hs2 HO HB
  go_wp2_with fail
  refine hbg.mono ?_
  rintro e W4 ⟨rfl, hE, hK, hw4⟩
  clear hw4
  go_wp2_with fail
  go_ret2
  exact ⟨s, rfl, ⟨_, _, hE⟩, HB3.out.trans (HC.out.out hK)⟩
theorem enew_n (c : Int) (w : World) (h : ¬ (1 ≤ c ∧ c ≤ 64)) : Calls Tryd.prog 6 #[.int .i64 c] w fun e w' => e = .returned (.tuple #[.pointer none, .int .i64 2]) ∧ Below w.heap.size w w' := by
  have hm := newModel_n c w h
  go_enter Tryd.func6, Tryd.ntmps6
  go_wp2_with fail
  refine hm.mono ?_
  rintro e w1 ⟨rfl, hb⟩
  have hsz := hb.size
  go_wp2_with fail
  go_ret2
  exact ⟨rfl, hb.alloc hsz _⟩
/-- After a call of an encoder that answers a number. -/
def EcGives (B a : Nat) (x : Am.X) (c : Int) (w : World) (e : Ending) (w' : World) : Prop := e = .returned (.int .i64 c) ∧ Ec w' B a x ∧ Kp a w w'
theorem eprob_c (w : World) (B a : Nat) (x : Am.X) (c : Int) (h : Ec w B a x) (_hl : x.1.length ≤ 64) :
    Calls Tryd.prog 17 #[.pointer (some ⟨a, 0, none⟩), .int .i64 c] w fun e w' => e = .returned (.int .i64 (if 0 ≤ c ∧ c < x.1.length then Am.pr x c else 0)) ∧ w = w' := by
  obtain ⟨pv, hv, h⟩ := h
  obtain ⟨c0, c1, c2, c3, c4⟩ := h.r.cells
  obtain ⟨s, m, rfl⟩ := own_slice h.ps
  have hh := has_c w a s x.1.length m c c0
  by_cases hc : 0 ≤ c ∧ c < x.1.length
  · rw [if_pos hc]
    obtain ⟨k, rfl⟩ : ∃ k : Nat, c = k := ⟨c.toNat, by omega⟩
    have hk : k < x.1.length := by omega
    obtain ⟨g, rfl, hg, _, _, _⟩ := own_at h.ps k hk
    have hp : Hid (Am.pr x (k : Int) = x.1[k]) := by show _ = _; simp [Am.pr, List.getD_eq_getElem?_getD, hk]
    have hg2 : w.cell? ⟨g, k, none⟩ = some (.int .i64 x.1[k]) := by rw [hg]; simp [hk]
    rw [show hasB x.1.length (k : Int) = true by simp [hasB]; omega] at hh
    have hk2 : (k : Int) < (x.1.length : Int) := by omega
    clear h hg hc
    generalize x.1[k] = p at *
    go_enter Tryd.func17, Tryd.ntmps17
    go_wp2_with (first | (go_at_call 27; refine (emade_y _ _ c1).mono ?_; rintro e wn ⟨rfl, rfl⟩) | (go_at_call 33; (with_reducible refine hh.mono ?_); rintro e wn ⟨rfl, rfl⟩))
    go_ret
    exact ⟨by rw [hp.out]; rfl, rfl⟩
  · rw [if_neg hc]
    rw [show hasB x.1.length c = false by simp [hasB]; omega] at hh
    clear h hc
    go_enter Tryd.func17, Tryd.ntmps17
    go_wp2_with (first | (go_at_call 27; refine (emade_y _ _ c1).mono ?_; rintro e wn ⟨rfl, rfl⟩) | (go_at_call 33; (with_reducible refine hh.mono ?_); rintro e wn ⟨rfl, rfl⟩))
    go_ret
    exact ⟨rfl, rfl⟩
/-- How many bytes suffice. -/
def szF (s : Am.St) : Int := if s.rg = 4294967295 then 0 else (s.n : Int) + 4
theorem esize_c (w : World) (B a : Nat) (x : Am.X) (h : Ec w B a x) (hn : x.2.n ≤ 1000000000) :
    Calls Tryd.prog 15 #[.pointer (some ⟨a, 0, none⟩)] w fun e w' => e = .returned (.int .i64 (szF x.2)) ∧ w = w' := by
  obtain ⟨pv, hv, h⟩ := h
  obtain ⟨c0, c1, c2, c3, c4⟩ := h.r.cells
  obtain ⟨s, m, rfl⟩ := own_slice h.hd
  unfold szF
  by_cases hr : x.2.rg = 4294967295
  · rw [if_pos hr]
    rw [hr] at c4
    clear h hr
    go_enter Tryd.func15, Tryd.ntmps15
    go_wp2_with (first | (go_at_call 27; refine (emade_y _ _ c1).mono ?_; rintro e wn ⟨rfl, rfl⟩))
    go_ret
    exact ⟨rfl, rfl⟩
  · rw [if_neg hr]
    have hb : (x.2.rg == 4294967295) = false := by simpa using hr
    clear h hr
    generalize x.2.rg = r at *
    go_enter Tryd.func15, Tryd.ntmps15
    go_wp2_with (first | (go_at_call 27; refine (emade_y _ _ c1).mono ?_; rintro e wn ⟨rfl, rfl⟩))
    go_ret
    exact ⟨rfl, rfl⟩
theorem ereset_c (w : World) (B a : Nat) (x : Am.X) (h : Ec w B a x) (h1 : 1 ≤ x.1.length) (hl : x.1.length ≤ 64) :
    Calls Tryd.prog 11 #[.pointer (some ⟨a, 0, none⟩)] w fun e w' => e = .returned (.tuple #[]) ∧ Ec w' B a (List.replicate x.1.length 2048, x.2) ∧ Kp a w w' := by
  obtain ⟨pv, hv, h⟩ := h
  obtain ⟨c0, c1, c2, c3, c4⟩ := h.r.cells
  obtain ⟨s, m, rfl⟩ := own_slice h.ps
  obtain ⟨g, rfl, _, _, _, _⟩ := own_at h.ps 0 (by omega)
  have hr := mreset_c w B a g m x.1.length 55 _ _ h.core rfl h.ps hl
  have H := Lib.hid h
  clear h
  go_enter Tryd.func11, Tryd.ntmps11
  go_wp2_with (first | (go_at_call 27; refine (emade_y _ _ c1).mono ?_; rintro e wn ⟨rfl, rfl⟩) | (go_at_call 32; refine hr.mono ?_; rintro e w4 ⟨rfl, hC4, hO4, hK4, hS4⟩))
  go_end0
  refine ⟨rfl, ⟨_, _, hC4, by rw [List.length_replicate]; exact hO4, own_keep H.out.hd fun k ho => hS4 k fun e => ?_⟩, hK4⟩
  subst e
  exact H.out.r.apart k rfl ho
end Go.Proofs.YtdnfnekfcndnhaaDoor
