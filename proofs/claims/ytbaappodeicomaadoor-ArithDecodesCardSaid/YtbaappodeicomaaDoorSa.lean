/-
  Layer 11, the reference's decoder: its cells; initial, next.
-/
import Derived.Test.YtbaappodeicomaaDoorDd
set_option maxRecDepth 100000
namespace Go.Proofs.YtbaappodeicomaaDoor
open Go.RowKit

theorem core_rows {w : World} {B a : Nat} {T : TypeId} {cs : Array Value} {pv dv : Value} {n m : Nat} {xs ys : List Value} (hB : B ≤ a) (hb : Blk w a T cs) (e0 : cs[0]? = some pv) (e1 : cs[1]? = some dv) (hr : ∀ (i : Nat) (v : Value), 2 ≤ i → cs[i]? = some v → v.ownBlock = none)
    (h1 : 3 ≠ T) (h2 : 5 ≠ T) (hp : w.ownsRow B 3 1 pv n xs) (hd : w.ownsRow B 5 1 dv m ys) : Core w B a T cs := by
  have key : ∀ (i : Nat) (v : Value) (k : Nat), cs[i]? = some v → v.ownBlock = some k → (i = 0 ∧ v = pv) ∨ (i = 1 ∧ v = dv) := by
    intro i v k hv hk
    rcases (show i = 0 ∨ i = 1 ∨ 2 ≤ i by omega) with rfl | rfl | h
    · rw [e0] at hv; exact .inl ⟨rfl, (Option.some.inj hv).symm⟩
    · rw [e1] at hv; exact .inr ⟨rfl, (Option.some.inj hv).symm⟩
    · rw [hr i v h hv] at hk; simp at hk
  have hap : ∀ k, pv.ownBlock = some k → dv.ownBlock = some k → False := fun k e1 e2 => by
    obtain ⟨_, ds, b1⟩ := own_foot hp e1
    obtain ⟨_, es, b2⟩ := own_foot hd e2
    exact Blk.ne (t := 3) b1 b2 (by decide) rfl
  refine ⟨hB, hb, fun i v k hv hk => ?_, fun i j v v' k hne hv hv2 hk hk' => ?_⟩
  · rcases key i v k hv hk with ⟨_, rfl⟩ | ⟨_, rfl⟩
    · obtain ⟨e1, ds, e2⟩ := own_foot hp hk
      exact ⟨e1, _, ds, e2, h1⟩
    · obtain ⟨e1, ds, e2⟩ := own_foot hd hk
      exact ⟨e1, _, ds, e2, h2⟩
  · rcases key i v k hv hk with ⟨rfl, rfl⟩ | ⟨rfl, rfl⟩ <;> rcases key j v' k hv2 hk' with ⟨rfl, rfl⟩ | ⟨rfl, rfl⟩
    · exact hne rfl
    · exact hap k hk hk'
    · exact hap k hk' hk
    · exact hne rfl
/-- The reference's decoder in memory. -/
structure SdC (w : World) (B a : Nat) (pv dv : Value) (P D : List Int) (t : Nat) (v rg : Int) (bg : Bool) : Prop where
  core : Core w B a 107 #[pv, dv, .int .i64 (t : Int), .int .i64 v, .int .i64 rg, .bool bg]
  ps : w.ownsRow B 3 1 pv P.length (P.map (Value.int .i64))
  dt : w.ownsRow B 5 1 dv D.length (D.map (Value.int .u8))
section
variable {w w1 : World} {B B' a b t : Nat} {pv dv : Value} {P D : List Int} {v rg : Int} {bg : Bool}
theorem SdC.cells (h : SdC w B a pv dv P D t v rg bg) : w.cell? ⟨a, 0, none⟩ = some pv ∧ w.cell? ⟨a, 1, none⟩ = some dv ∧ w.cell? ⟨a, 2, none⟩ = some (.int .i64 (t : Int)) ∧ w.cell? ⟨a, 3, none⟩ = some (.int .i64 v) ∧ w.cell? ⟨a, 4, none⟩ = some (.int .i64 rg) ∧ w.cell? ⟨a, 5, none⟩ = some (.bool bg) := ⟨h.core.blk.cell 0, h.core.blk.cell 1, h.core.blk.cell 2, h.core.blk.cell 3, h.core.blk.cell 4, h.core.blk.cell 5⟩
theorem SdC.keep (h : SdC w B a pv dv P D t v rg bg) (hk : ∀ k, Fp w a k → w1.heap[k]? = w.heap[k]?) : SdC w1 B a pv dv P D t v rg bg :=
  ⟨h.core.keep hk, own_keep h.ps fun k ho => hk k (h.core.of (i := 0) rfl ho), own_keep h.dt fun k ho => hk k (h.core.of (i := 1) rfl ho)⟩
theorem SdC.below (h : SdC w B a pv dv P D t v rg bg) (hb : Below w.heap.size w w1) : SdC w1 B a pv dv P D t v rg bg := h.keep fun k hk => hb.block k (h.core.fl k hk)
theorem SdC.lower (h : SdC w B a pv dv P D t v rg bg) (hB : B' ≤ B) : SdC w B' a pv dv P D t v rg bg := ⟨h.core.lower hB, own_lower h.ps hB, own_lower h.dt hB⟩
theorem SdC.pa (h : SdC w B a pv dv P D t v rg bg) : pv.ownBlock ≠ some a ∧ dv.ownBlock ≠ some a := ⟨own_blk_ne h.ps h.core.blk (by decide), own_blk_ne h.dt h.core.blk (by decide)⟩
theorem SdC.setAt (h : SdC w B a pv dv P D t v rg bg) (t' : Nat) : SdC (w.setCell ⟨a, 2, none⟩ (.int .i64 (t' : Int))) B a pv dv P D t' v rg bg ∧ Kp a w (w.setCell ⟨a, 2, none⟩ (.int .i64 (t' : Int))) := by
  have N := h.core.num 2 (.int .i64 (t' : Int)) rfl
  exact ⟨⟨by simpa using N.1, own_far h.ps ⟨a, 2, none⟩ _ h.pa.1, own_far h.dt ⟨a, 2, none⟩ _ h.pa.2⟩, N.2⟩
theorem SdC.setVal (h : SdC w B a pv dv P D t v rg bg) (v' : Int) : SdC (w.setCell ⟨a, 3, none⟩ (.int .i64 v')) B a pv dv P D t v' rg bg ∧ Kp a w (w.setCell ⟨a, 3, none⟩ (.int .i64 v')) := by
  have N := h.core.num 3 (.int .i64 v') rfl
  exact ⟨⟨by simpa using N.1, own_far h.ps ⟨a, 3, none⟩ _ h.pa.1, own_far h.dt ⟨a, 3, none⟩ _ h.pa.2⟩, N.2⟩
theorem SdC.setRg (h : SdC w B a pv dv P D t v rg bg) (r' : Int) : SdC (w.setCell ⟨a, 4, none⟩ (.int .i64 r')) B a pv dv P D t v r' bg ∧ Kp a w (w.setCell ⟨a, 4, none⟩ (.int .i64 r')) := by
  have N := h.core.num 4 (.int .i64 r') rfl
  exact ⟨⟨by simpa using N.1, own_far h.ps ⟨a, 4, none⟩ _ h.pa.1, own_far h.dt ⟨a, 4, none⟩ _ h.pa.2⟩, N.2⟩
theorem SdC.setBg (h : SdC w B a pv dv P D t v rg bg) (b' : Bool) : SdC (w.setCell ⟨a, 5, none⟩ (.bool b')) B a pv dv P D t v rg b' ∧ Kp a w (w.setCell ⟨a, 5, none⟩ (.bool b')) := by
  have N := h.core.num 5 (.bool b') rfl
  exact ⟨⟨by simpa using N.1, own_far h.ps ⟨a, 5, none⟩ _ h.pa.1, own_far h.dt ⟨a, 5, none⟩ _ h.pa.2⟩, N.2⟩
theorem SdC.drewN (h : SdC w B a pv dv P D t v rg bg) (n : Nat) : SdC (w.drewN n) B a pv dv P D t v rg bg ∧ Kp a w (w.drewN n) := ⟨h.below (drewN_below w n), Kp.of_below (drewN_below w n) h.core.lt⟩
theorem SdC.prob {g n mp : Nat} (h : SdC w B a (.slice (some ⟨g, 0, none⟩) n mp) dv P D t v rg bg) (k : Nat) (q : Int) : SdC (w.setCell ⟨g, k, none⟩ (.int .i64 q)) B a (.slice (some ⟨g, 0, none⟩) n mp) dv (P.set k q) D t v rg bg ∧ Kp a w (w.setCell ⟨g, k, none⟩ (.int .i64 q)) := by
  have N := h.core.row (i := 0) (g := g) rfl rfl k (.int .i64 q)
  have hn : n = P.length := by
    have h1 := h.ps
    rcases h1.2 with ⟨h2, _⟩ | ⟨g', cap, cur, h2, _⟩
    · simp at h2
    · simp at h2; exact h2.2.1
  subst hn
  refine ⟨⟨N.1, ?_, own_far h.dt ⟨g, k, none⟩ _ fun e => h.core.dis 0 1 _ dv g (by decide) rfl rfl rfl e⟩, N.2⟩
  have := own_put h.ps k (.int .i64 q)
  rw [List.length_set, List.map_set]
  exact this
end
/-- initial: a new row of probabilities. -/
theorem initial_c (n : Nat) (w : World) (hn : n ≤ 64) : Calls Tryd.prog 64 #[.int .i64 (n : Int)] w fun e w' => ∃ v, e = .returned v ∧ (∃ s m, v = .slice s n m) ∧ w'.ownsRow w.heap.size 3 1 v n ((List.replicate n (2048 : Int)).map (Value.int .i64)) ∧ Below w.heap.size w w' := by
  obtain ⟨i0, hi, hz0, hz1, hz2⟩ := info_parts infoI
  have hI : Hid ((w.alloc (.cells #[] 3)).ownsRow w.heap.size 3 1 (.slice (some ⟨w.heap.size, 0, none⟩) 0 0) 0 ((List.replicate 0 (2048 : Int)).map (Value.int .i64)) ∧ Below w.heap.size w (w.alloc (.cells #[] 3))) := ⟨World.ownsRow_made w #[] 0 (Nat.le_refl _) (by decide) (by simp), (Below.refl _ _).alloc (Nat.le_refl _) _⟩
  go_enter Tryd.func64, Tryd.ntmps64
  go_wp2_with fail
  go_loopw [3, 4] (fun z i wr => ∃ (k : Nat) (sv : Value), k ≤ n ∧ i = .int .i64 (k : Int) ∧ z = sv ∧ Hid (wr.ownsRow w.heap.size 3 1 sv k ((List.replicate k (2048 : Int)).map (Value.int .i64)) ∧ Below w.heap.size w wr)) (fun _ i _ => n - (intOf i).toNat)
  case atStart => exact ⟨0, _, Nat.zero_le _, rfl, rfl, hI⟩
  case round =>
    obtain ⟨k, sv, hk, rfl, hz, hT⟩ := hrel
    obtain ⟨s5, m5, rfl⟩ := own_slice hT.out.1
    subst hz
    have hws := hT.out.2.size
    by_cases hlt : k < n
    · go_wp2_with (first | (at_builtin; refine wpList_append_own_at _ rfl _ _ 54 rfl w.heap.size 3 i0 (.int .i64 0) 1 8 Tryd.underlying54 hi hz0 hz1 hz2 rfl (by decide) _ k _ rfl (own_below hT.out.1 ((Below.refl _ _).alloc (Nat.le_refl _) _)) ⟨wr.heap.size, 0, none⟩ 1 1 [.int .i64 2048] rfl rfl (one_new8 _ _ _) (by intro u hu; simp at hu; subst hu; rfl) (by unfold maxLen; omega) (by omega) (by simp; omega) ?_))
      intro v' w2 hown hgrow _ hat
      have hB2 : Below w.heap.size w w2 := (hT.out.2.alloc hws _).grown hgrow (by simp; omega) fun k hk => (own_foot hT.out.1 hk).1
      have X := Lib.hid hown
      have HB2 := Lib.hid hB2
      clear hown hgrow hat hB2
      go_wp2_with fail
      go_roundw
      case rel => exact ⟨k + 1, v', by omega, by go_num, rfl, by have := X.out; rw [List.replicate_succ', List.map_append]; simpa using this, HB2.out⟩
      case measure => simp [intOf]; omega
    · obtain rfl : k = n := by omega
      go_wp2_with fail
      go_ret
      exact ⟨_, rfl, ⟨s5, m5, rfl⟩, hT.out.1, hT.out.2⟩
theorem snext_c (w : World) (B a t : Nat) (pv dv : Value) (P D : List Int) (v rg : Int) (bg : Bool) (h : SdC w B a pv dv P D t v rg bg) (hD : Am.bytes D) (ht : t ≤ 1000000000) :
    Calls Tryd.prog 78 #[.pointer (some ⟨a, 0, none⟩)] w fun e w' => e = .returned (.int .i64 (D.getD t 0)) ∧ SdC w' B a pv dv P D (t + 1) v rg bg ∧ Kp a w w' := by
  obtain ⟨c0, c1, c2, c3, c4, c5⟩ := h.cells
  have f := h.core.blk.free
  have H := Lib.hid h
  have S1 := h.setAt (t + 1)
  obtain ⟨sd, md, rfl⟩ := own_slice h.dt
  obtain ⟨W1, hW1⟩ : ∃ W1, W1 = w.setCell ⟨a, 2, none⟩ (.int .i64 ((t + 1 : Nat) : Int)) := ⟨_, rfl⟩
  rw [← hW1] at S1
  have e1 : ((t + 1 : Nat) : Int) = (t : Int) + 1 := by omega
  rw [e1] at hW1
  obtain ⟨d0, d1, d2, d3, d4, d5⟩ := S1.1.cells
  rw [e1] at d2
  have HS := Lib.hid S1.1
  have HK := Lib.hid S1.2
  have HW := Lib.hid hW1
  clear h S1 hW1 c0 c3 c4 c5
  go_enter Tryd.func78, Tryd.ntmps78
  go_upto_region 2 with fail
  rw [← HW.out]
  clear c1 c2 f
  by_cases hlt : t < D.length
  · obtain ⟨g, rfl, hc, _⟩ := own_at HS.out.dt t hlt
    have hg : W1.cell? ⟨g, t, none⟩ = some (.int .u8 (D.getD t 0)) := by rw [hc]; simp [hlt]
    have hnq : ∀ n, (W1.drewN n).cell? ⟨g, t, none⟩ = some (.int .u8 (D.getD t 0)) := fun n => ((drewN_below W1 n).cell (p := ⟨g, t, none⟩) (cell_lt hg)).trans hg
    clear hc
    have hxb := Am.bytes_getD hD t
    unfold Am.byte at hxb
    obtain ⟨x, hx⟩ : ∃ x, x = D.getD t 0 := ⟨_, rfl⟩
    rw [← hx] at hg hnq hxb
    have HX := Lib.hid hx
    have hwr : wrap64 x = x := by unfold wrap64; omega
    clear hx hD
    have hgt : ¬ ((D.length : Int) < (t : Int) + 1) := by omega
    go_quiet (fail)
    obtain ⟨_, k1, k2, _, _, _⟩ := (HS.out.drewN nq).1.cells
    have kg := hnq nq
    have KQ := Lib.hid (HS.out.drewN nq)
    rw [e1] at k2
    obtain ⟨W2, hW2⟩ : ∃ W2, W2 = W1.drewN nq := ⟨_, rfl⟩
    rw [← hW2] at k1 k2 kg KQ ⊢
    clear hW2 hnq hg d0 d1 d2 d3 d4 d5
    go_wp2_with fail
    go_quiet (fail)
    go_wp2_with fail
    go_ret
    have KR := KQ.out.1.drewN nq
    exact ⟨by rw [← HX.out]; rfl, KR.1, (HK.out.trans KQ.out.2).trans KR.2⟩
  · clear hD
    have hgt : (D.length : Int) < (t : Int) + 1 := by omega
    have hz : Hid (D.getD t 0 = 0) := Am.getD_over (by omega)
    go_quiet (fail)
    go_wp2_with fail
    go_ret
    have KR := HS.out.drewN nq
    exact ⟨by rw [hz.out]; rfl, KR.1, HK.out.trans KR.2⟩
end Go.Proofs.YtbaappodeicomaaDoor
