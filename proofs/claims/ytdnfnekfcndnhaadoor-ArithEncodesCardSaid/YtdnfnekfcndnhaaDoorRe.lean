/-
  Layer 11, the reference's encoder: its cells; initial, begin, NewEncoder, Reset, Probability, Size.
-/
import Derived.Test.YtdnfnekfcndnhaaDoorRd
set_option maxRecDepth 100000
namespace Go.Proofs.YtdnfnekfcndnhaaDoor
open Go.RowKit

/-- A cell of the object takes a row that is new. -/
theorem Core.fresh {w w1 : World} {B a : Nat} {T e : TypeId} {cs : Array Value} {v : Value} {n : Nat} {xs : List Value} (h : Core w B a T cs) (hb : Below w.heap.size w w1) (ho : w1.ownsRow w.heap.size e 1 v n xs) (hne : e ≠ T) (i : Nat) :
    Core (w1.setCell ⟨a, i, none⟩ v) B a T (cs.setIfInBounds i v) ∧ (w1.setCell ⟨a, i, none⟩ v).ownsRow B e 1 v n xs ∧ Kp a w (w1.setCell ⟨a, i, none⟩ v) := by
  have h1 : Core w1 B a T cs := h.keep fun k hk => hb.block k (h.fl k hk)
  have hB : B ≤ w.heap.size := Nat.le_trans h.ge (Nat.le_of_lt h.lt)
  have hva : v.ownBlock ≠ some a := own_blk_ne ho h1.blk hne
  refine ⟨h1.put i v fun k hk => ?_, own_lower (own_far ho ⟨a, i, none⟩ v hva) hB, (Kp.of_below hb h.lt).put h1.lt _ fun k hk => .inr (own_foot ho hk).1⟩
  obtain ⟨h2, ds, h3⟩ := own_foot ho hk
  refine ⟨by omega, ⟨e, ds, h3, hne⟩, fun j u _ hu hk' => ?_⟩
  obtain ⟨_, t, es, h4, _⟩ := h.foot j u k hu hk'
  have := h4.lt
  omega
/-- The reference's encoder in memory. -/
structure VeC (w : World) (B a : Nat) (pv lv : Value) (P L : List Int) (rg : Int) (bg : Bool) : Prop where
  core : Core w B a 58 #[pv, lv, .int .i64 rg, .bool bg]
  ps : w.ownsRow B 3 1 pv P.length (P.map (Value.int .i64))
  lw : w.ownsRow B 3 1 lv L.length (L.map (Value.int .i64))
section
variable {w w1 : World} {B B' a b t : Nat} {pv lv : Value} {P L : List Int} {rg : Int} {bg : Bool}
theorem VeC.cells (h : VeC w B a pv lv P L rg bg) : w.cell? ⟨a, 0, none⟩ = some pv ∧ w.cell? ⟨a, 1, none⟩ = some lv ∧ w.cell? ⟨a, 2, none⟩ = some (.int .i64 rg) ∧ w.cell? ⟨a, 3, none⟩ = some (.bool bg) := ⟨h.core.blk.cell 0, h.core.blk.cell 1, h.core.blk.cell 2, h.core.blk.cell 3⟩
theorem VeC.keep (h : VeC w B a pv lv P L rg bg) (hk : ∀ k, Fp w a k → w1.heap[k]? = w.heap[k]?) : VeC w1 B a pv lv P L rg bg :=
  ⟨h.core.keep hk, own_keep h.ps fun k ho => hk k (h.core.of (i := 0) rfl ho), own_keep h.lw fun k ho => hk k (h.core.of (i := 1) rfl ho)⟩
theorem VeC.below (h : VeC w B a pv lv P L rg bg) (hb : Below w.heap.size w w1) : VeC w1 B a pv lv P L rg bg := h.keep fun k hk => hb.block k (h.core.fl k hk)
theorem VeC.lower (h : VeC w B a pv lv P L rg bg) (hB : B' ≤ B) : VeC w B' a pv lv P L rg bg := ⟨h.core.lower hB, own_lower h.ps hB, own_lower h.lw hB⟩
theorem VeC.pa (h : VeC w B a pv lv P L rg bg) : pv.ownBlock ≠ some a ∧ lv.ownBlock ≠ some a := ⟨own_blk_ne h.ps h.core.blk (by decide), own_blk_ne h.lw h.core.blk (by decide)⟩
theorem VeC.apart (h : VeC w B a pv lv P L rg bg) (k : Nat) (h1 : pv.ownBlock = some k) (h2 : lv.ownBlock = some k) : False := h.core.dis 0 1 pv lv k (by decide) rfl rfl h1 h2
theorem VeC.setRg (h : VeC w B a pv lv P L rg bg) (r' : Int) : VeC (w.setCell ⟨a, 2, none⟩ (.int .i64 r')) B a pv lv P L r' bg ∧ Kp a w (w.setCell ⟨a, 2, none⟩ (.int .i64 r')) := by
  have N := h.core.num 2 (.int .i64 r') rfl
  exact ⟨⟨by simpa using N.1, own_far h.ps ⟨a, 2, none⟩ _ h.pa.1, own_far h.lw ⟨a, 2, none⟩ _ h.pa.2⟩, N.2⟩
theorem VeC.setBg (h : VeC w B a pv lv P L rg bg) (b' : Bool) : VeC (w.setCell ⟨a, 3, none⟩ (.bool b')) B a pv lv P L rg b' ∧ Kp a w (w.setCell ⟨a, 3, none⟩ (.bool b')) := by
  have N := h.core.num 3 (.bool b') rfl
  exact ⟨⟨by simpa using N.1, own_far h.ps ⟨a, 3, none⟩ _ h.pa.1, own_far h.lw ⟨a, 3, none⟩ _ h.pa.2⟩, N.2⟩
theorem own_n {g n m : Nat} {P : List Int} (h : w.ownsRow B 3 1 (.slice (some ⟨g, 0, none⟩) n m) P.length (P.map (Value.int .i64))) : n = P.length := by
  rcases h.2 with ⟨h2, _⟩ | ⟨g', cap, cur, h2, _⟩
  · simp at h2
  · simp at h2; exact h2.2.1
theorem VeC.prob {g n mp : Nat} (h : VeC w B a (.slice (some ⟨g, 0, none⟩) n mp) lv P L rg bg) (k : Nat) (q : Int) : VeC (w.setCell ⟨g, k, none⟩ (.int .i64 q)) B a (.slice (some ⟨g, 0, none⟩) n mp) lv (P.set k q) L rg bg ∧ Kp a w (w.setCell ⟨g, k, none⟩ (.int .i64 q)) := by
  have N := h.core.row (i := 0) (g := g) rfl rfl k (.int .i64 q)
  have hn := own_n h.ps
  subst hn
  refine ⟨⟨N.1, ?_, own_far h.lw ⟨g, k, none⟩ _ fun e => h.apart g rfl e⟩, N.2⟩
  have := own_put h.ps k (.int .i64 q)
  rw [List.length_set, List.map_set]
  exact this
theorem VeC.digit {g n mp : Nat} (h : VeC w B a pv (.slice (some ⟨g, 0, none⟩) n mp) P L rg bg) (k : Nat) (q : Int) : VeC (w.setCell ⟨g, k, none⟩ (.int .i64 q)) B a pv (.slice (some ⟨g, 0, none⟩) n mp) P (L.set k q) rg bg ∧ Kp a w (w.setCell ⟨g, k, none⟩ (.int .i64 q)) := by
  have N := h.core.row (i := 1) (g := g) rfl rfl k (.int .i64 q)
  have hn := own_n h.lw
  subst hn
  refine ⟨⟨N.1, own_far h.ps ⟨g, k, none⟩ _ fun e => h.apart g e rfl, ?_⟩, N.2⟩
  have := own_put h.lw k (.int .i64 q)
  rw [List.length_set, List.map_set]
  exact this
theorem VeC.more (h : VeC w B a pv lv P L rg bg) {v' : Value} {w2 : World} {X : Obj} {y : Int} (hown : w2.ownsRow B 3 1 v' (L.length + 1) (L.map (Value.int .i64) ++ [.int .i64 y])) (hg : (w.alloc X).grownBy w2 lv.ownBlock) (hat : v'.ownBlock = lv.ownBlock ∨ v'.ownBlock = some (w.heap.size + 1)) :
    VeC (w2.setCell ⟨a, 1, none⟩ v') B a pv v' P (L ++ [y]) rg bg ∧ Kp a w (w2.setCell ⟨a, 1, none⟩ v') ∧ Blk w2 a 58 #[pv, lv, .int .i64 rg, .bool bg] := by
  obtain ⟨x1, x2, x3, x4⟩ := h.core.grow (i := 1) rfl h.lw (by decide) hown hg (hat.imp id fun he k hk => by rw [he] at hk; have := Option.some.inj hk; omega)
  refine ⟨⟨by simpa using x1, ?_, by rw [List.length_append, List.length_singleton, List.map_append]; exact x2⟩, x3, x4⟩
  refine own_far (own_keep h.ps fun k ho => ?_) ⟨a, 1, none⟩ _ h.pa.1
  obtain ⟨_, ds, hb⟩ := own_foot h.ps ho
  exact (hg.block k (by have := hb.lt; simp; omega) (fun e => h.apart k ho e.symm)).trans (Below.heap_alloc w X k hb.lt)
theorem VeC.newP (h : VeC w B a pv lv P L rg bg) (hb : Below w.heap.size w w1) {v : Value} {Q : List Int} (ho : w1.ownsRow w.heap.size 3 1 v Q.length (Q.map (Value.int .i64))) :
    VeC (w1.setCell ⟨a, 0, none⟩ v) B a v lv Q L rg bg ∧ Kp a w (w1.setCell ⟨a, 0, none⟩ v) := by
  have F := h.core.fresh hb ho (by decide) 0
  have h1 := h.below hb
  exact ⟨⟨by simpa using F.1, F.2.1, own_far h1.lw ⟨a, 0, none⟩ _ h1.pa.2⟩, F.2.2⟩
theorem VeC.newL (h : VeC w B a pv lv P L rg bg) (hb : Below w.heap.size w w1) {v : Value} {Q : List Int} (ho : w1.ownsRow w.heap.size 3 1 v Q.length (Q.map (Value.int .i64))) :
    VeC (w1.setCell ⟨a, 1, none⟩ v) B a pv v P Q rg bg ∧ Kp a w (w1.setCell ⟨a, 1, none⟩ v) := by
  have F := h.core.fresh hb ho (by decide) 1
  have h1 := h.below hb
  exact ⟨⟨by simpa using F.1, own_far h1.ps ⟨a, 1, none⟩ _ h1.pa.1, F.2.1⟩, F.2.2⟩
end
/-- initial: a new row of probabilities. -/
theorem initial_c (n : Nat) (w : World) (hn : n ≤ 64) : Calls Tryd.prog 25 #[.int .i64 (n : Int)] w fun e w' => ∃ v, e = .returned v ∧ (∃ s m, v = .slice s n m) ∧ w'.ownsRow w.heap.size 3 1 v n ((List.replicate n (2048 : Int)).map (Value.int .i64)) ∧ Below w.heap.size w w' := by
  obtain ⟨i0, hi, hz0, hz1, hz2⟩ := info_parts infoI
  have hI : Hid ((w.alloc (.cells #[] 3)).ownsRow w.heap.size 3 1 (.slice (some ⟨w.heap.size, 0, none⟩) 0 0) 0 ((List.replicate 0 (2048 : Int)).map (Value.int .i64)) ∧ Below w.heap.size w (w.alloc (.cells #[] 3))) := ⟨World.ownsRow_made w #[] 0 (Nat.le_refl _) (by decide) (by simp), (Below.refl _ _).alloc (Nat.le_refl _) _⟩
  go_enter Tryd.func25, Tryd.ntmps25
  go_wp2_with fail
  go_loopw [3, 4] (fun z i wr => ∃ (k : Nat) (sv : Value), k ≤ n ∧ i = .int .i64 (k : Int) ∧ z = sv ∧ Hid (wr.ownsRow w.heap.size 3 1 sv k ((List.replicate k (2048 : Int)).map (Value.int .i64)) ∧ Below w.heap.size w wr)) (fun _ i _ => n - (intOf i).toNat)
  case atStart => exact ⟨0, _, Nat.zero_le _, rfl, rfl, hI⟩
  case round =>
    obtain ⟨k, sv, hk, rfl, hz, hT⟩ := hrel
    obtain ⟨s5, m5, rfl⟩ := own_slice hT.out.1
    subst hz
    have hws := hT.out.2.size
    by_cases hlt : k < n
    · go_wp2_with (first | (at_builtin; refine wpList_append_own_at _ rfl _ _ 48 rfl w.heap.size 3 i0 (.int .i64 0) 1 8 Tryd.underlying48 hi hz0 hz1 hz2 rfl (by decide) _ k _ rfl (own_below hT.out.1 ((Below.refl _ _).alloc (Nat.le_refl _) _)) ⟨wr.heap.size, 0, none⟩ 1 1 [.int .i64 2048] rfl rfl (one_new8 _ _ _) (by intro u hu; simp at hu; subst hu; rfl) (by unfold maxLen; omega) (by omega) (by simp; omega) ?_))
      intro v' w2 hown hgrow _ hat
      have hB2 : Below w.heap.size w w2 := (hT.out.2.alloc hws _).grown hgrow (by simp; omega) fun k hk => (own_foot hT.out.1 hk).1
      have X := Lib.hid hown
      have HB2 := Lib.hid hB2
      clear hown hgrow hat hB2
      go_wp2_with fail
      go_roundw
      case rel => exact ⟨k + 1, v', by omega, by go_num, rfl, by have := X.out; rw [List.replicate_succ', List.map_append]; simpa using this, HB2.out⟩
      case measure => simp [intOf]; omega
    · obtain rfl : k = n := by omega
      go_wp2_with fail
      go_ret
      exact ⟨_, rfl, ⟨s5, m5, rfl⟩, hT.out.1, hT.out.2⟩
theorem ptrVn (w : World) (a : Addr) : (binOp .eql 29 (.pointer (some a)) (.pointer none)).run Tryd.prog w = .ok (.bool false) w := by
  have h : ∀ d : Nat, (Op.equalIn (d + 1) 29 (.pointer (some a)) (.pointer none)).run Tryd.prog w = .ok false w := fun d => by
    simp [Op.equalIn, run_underlying (P := Tryd.prog) (t := 29) Tryd.underlying29]
  simp only [binOp]
  simp [Op.equal, Op.maxDepth, h 9999]
end Go.Proofs.YtdnfnekfcndnhaaDoor
