/-
  Layer 11, the reference's decoder: NewDecoder, Reset, Start.
-/
import Derived.Test.YtbaappodeicomaaDoorSa
set_option maxRecDepth 100000
namespace Go.Proofs.YtbaappodeicomaaDoor
open Go.RowKit

def Sd0 (w : World) (B a : Nat) (P : List Int) : Prop := ∃ pv dv, SdC w B a pv dv P [] 0 0 0 false
def Sds (w : World) (B a : Nat) (x : Am.X) (D : List Int) : Prop := ∃ pv dv, SdC w B a pv dv x.1 D (x.2.n + 4) (Am.num (Am.fixd D) (x.2.n + 4) - x.2.lo) x.2.rg true
theorem rest6 {pv dv x y z u : Value} (hx : x.ownBlock = none) (hy : y.ownBlock = none) (hz : z.ownBlock = none) (hu : u.ownBlock = none) : ∀ (i : Nat) (v : Value), 2 ≤ i → (#[pv, dv, x, y, z, u] : Array Value)[i]? = some v → v.ownBlock = none := by
  intro i v hi hv
  match i, hi, hv with
  | 2, _, h => simp at h; subst h; exact hx
  | 3, _, h => simp at h; subst h; exact hy
  | 4, _, h => simp at h; subst h; exact hz
  | 5, _, h => simp at h; subst h; exact hu
  | i + 6, _, h => simp at h
theorem ptrSn (w : World) (a : Addr) : (binOp .eql 46 (.pointer (some a)) (.pointer none)).run Tryd.prog w = .ok (.bool false) w := by
  have h : ∀ d : Nat, (Op.equalIn (d + 1) 46 (.pointer (some a)) (.pointer none)).run Tryd.prog w = .ok false w := fun d => by
    simp [Op.equalIn, run_underlying (P := Tryd.prog) (t := 46) Tryd.underlying46]
  simp only [binOp]
  simp [Op.equal, Op.maxDepth, h 9999]
theorem snew_y (n : Nat) (w : World) (h1 : 1 ≤ n) (h2 : n ≤ 64) : Calls Tryd.prog 33 #[.int .i64 (n : Int)] w fun e w' => ∃ a, e = .returned (.tuple #[.pointer (some ⟨a, 0, none⟩), .int .i64 0]) ∧ Sd0 w' w.heap.size a (List.replicate n 2048) ∧ Below w.heap.size w w' := by
  have hm := initial_c n w h2
  go_enter Tryd.func33, Tryd.ntmps33
  go_wp2_with fail
  refine hm.mono ?_
  rintro e w1 ⟨v, rfl, ⟨s, m, rfl⟩, ho, hb⟩
  have HO := Lib.hid ho
  have HB := Lib.hid hb
  clear hm ho hb
  go_wp2_with fail
  go_ret2
  have hA3 := (Below.refl w1.heap.size w1).alloc (Nat.le_refl _) (.cells #[.slice s n m, .slice none 0 0, .int .i64 0, .int .i64 0, .int .i64 0, .bool false] 107)
  have b3 := Blk.new w1 107 #[.slice s n m, .slice none 0 0, .int .i64 0, .int .i64 0, .int .i64 0, .bool false]
  have ho3 := own_below HO.out hA3
  refine ⟨_, rfl, ⟨.slice s n m, .slice none 0 0, core_rows HB.out.size b3 rfl rfl (rest6 rfl rfl rfl rfl) (by decide) (by decide) ho3 (World.ownsRow_nil _ _ 5 1), by rw [List.length_replicate]; exact ho3, World.ownsRow_nil _ _ _ _⟩, below_call HB.out hA3⟩
theorem snew_n (c : Int) (w : World) (h : ¬ (1 ≤ c ∧ c ≤ 64)) : Calls Tryd.prog 33 #[.int .i64 c] w fun e w' => e = .returned (.tuple #[.pointer none, .int .i64 2]) ∧ w = w' := by
  by_cases h0 : c < 1
  · clear h
    go_enter Tryd.func33, Tryd.ntmps33
    go_wp2_with fail
    go_ret2
    exact ⟨rfl, rfl⟩
  · have h1 : 64 < c := by omega
    clear h
    go_enter Tryd.func33, Tryd.ntmps33
    go_wp2_with fail
    go_ret2
    exact ⟨rfl, rfl⟩
theorem sreset_c (w : World) (B a t : Nat) (pv dv : Value) (P D : List Int) (v rg : Int) (bg : Bool) (h : SdC w B a pv dv P D t v rg bg) (hl : P.length ≤ 64) :
    Calls Tryd.prog 37 #[.pointer (some ⟨a, 0, none⟩)] w fun e w' => e = .returned (.tuple #[]) ∧ (∃ pv', SdC w' B a pv' dv (List.replicate P.length 2048) D t v rg bg) ∧ Kp a w w' := by
  obtain ⟨c0, c1, c2, c3, c4, c5⟩ := h.cells
  have f := h.core.blk.free
  obtain ⟨s, m, rfl⟩ := own_slice h.ps
  have hm := initial_c P.length w hl
  have H := Lib.hid h
  have hp := fun W => ptrSn W ⟨a, 0, none⟩
  clear h c1 c2 c3 c4 c5
  go_enter Tryd.func37, Tryd.ntmps37
  go_wp2_with fail
  refine hm.mono ?_
  rintro e w1 ⟨v1, rfl, ⟨s1, m1, rfl⟩, ho, hb⟩
  have H1 := Lib.hid (H.out.below hb)
  have d0 := H1.out.cells.1
  have df := H1.out.core.blk.free
  have HO := Lib.hid ho
  have HB := Lib.hid hb
  clear hm ho hb c0 f
  go_wp2_with fail
  go_end0
  have hne : (Value.slice s1 P.length m1).ownBlock ≠ some a := own_blk_ne HO.out H1.out.core.blk (by decide)
  have hBw : B ≤ w.heap.size := Nat.le_trans H.out.core.ge (Nat.le_of_lt H.out.core.lt)
  have b := H1.out.core.blk.set 0 (.slice s1 P.length m1)
  simp at b
  have O1 := own_lower (own_far HO.out ⟨a, 0, none⟩ (.slice s1 P.length m1) hne) hBw
  have O2 := own_far H1.out.dt ⟨a, 0, none⟩ (.slice s1 P.length m1) H1.out.pa.2
  refine ⟨rfl, ⟨.slice s1 P.length m1, core_rows H.out.core.ge b rfl rfl (rest6 rfl rfl rfl rfl) (by decide) (by decide) O1 O2, by rw [List.length_replicate]; exact O1, O2⟩, (Kp.of_below HB.out H.out.core.lt).put H1.out.core.lt _ fun k hk => .inr (own_foot HO.out hk).1⟩
end Go.Proofs.YtbaappodeicomaaDoor
