/-
  Layer 23: crowded: the plain mathematics of its totals, and its state in memory.
-/
import Derived.Test.YtkcjbehfhcmiaaaHq1
import Derived.Test.YtkcjbehfhcmiaaaHq2
import Derived.Test.YtkcjbehfhcmiaaaHs
import Derived.Test.YtkcjbehfhcmiaaaHh
set_option maxRecDepth 100000
namespace Go.Proofs.Ytkcjbehfhcmiaaa
open Go.RowKit

/-- The totals behind the first ci components, and behind the first r resolutions of the next one. -/
def totC (h : Hp.Hd) (p : Hp.Ps) (ci : Nat) : List Int := (h.cs.take ci).foldl (Hp.comM h p) (List.replicate (Hp.tl h).length 0)
def totR (h : Hp.Hd) (p : Hp.Ps) (c : Hp.Cm) (l : List Int) (r : Nat) : List Int := (List.range r).foldl (Hp.resM h p c) l
theorem totC_next (h : Hp.Hd) (p : Hp.Ps) {ci : Nat} (hc : ci < h.cs.length) : totC h p (ci + 1) = totR h p h.cs[ci] (totC h p ci) (p.lev + 1).toNat := by
  unfold totC
  rw [List.take_succ_eq_append_getElem hc, List.foldl_append]
  rfl
theorem totR_next (h : Hp.Hd) (p : Hp.Ps) (c : Hp.Cm) (l : List Int) (r : Nat) : totR h p c l (r + 1) = Hp.resM h p c (totR h p c l r) r := by
  unfold totR
  rw [List.range_succ, List.foldl_append]
  rfl
def bdL (l : List Int) (n : Nat) : Prop := ∀ v ∈ l, 0 ≤ v ∧ v ≤ (n : Int) * 16777216
theorem bd_add {xs ys l : List Int} {n k : Nat} (hl : bdL l k) (hx : ∀ v ∈ xs, 0 ≤ v ∧ v ≤ 4096) (hy : ∀ v ∈ ys, 0 ≤ v ∧ v ≤ 4096) : bdL (Hp.addL xs ys n l) (k + 1) := by
  intro v hv
  obtain ⟨t, ht, rfl⟩ := List.mem_map.1 hv
  have ht := List.mem_range.1 ht
  have g : ∀ (L : List Int) (i : Nat) , (∀ v ∈ L, 0 ≤ v ∧ v ≤ 4096) → 0 ≤ L.getD i 0 ∧ L.getD i 0 ≤ 4096 := fun L i hL => by
    rw [List.getD_eq_getElem?_getD]
    by_cases q : i < L.length
    · rw [List.getElem?_eq_getElem q]; exact hL _ (List.getElem_mem q)
    · rw [List.getElem?_eq_none (by omega)]; simp
  have a := g xs (t % n) hx
  have b := g ys (t / n) hy
  have c := hl l[t] (List.getElem_mem ht)
  have e : l.getD t 0 = l[t] := by rw [List.getD_eq_getElem?_getD]; simp [ht]
  rw [e]
  have p1 := Int.mul_nonneg a.1 b.1
  have p2 := Int.mul_le_mul a.2 b.2 b.1 (by decide)
  have e2 : ((k + 1 : Nat) : Int) * 16777216 = (k : Int) * 16777216 + 16777216 := by rw [Int.natCast_add, Int.add_mul]; rfl
  rw [e2]
  omega
theorem tot_bd {h : Hp.Hd} {p : Hp.Ps} {c : Hp.Cm} (T : Hp.Tls h) (hc : (1 ≤ c.dx ∧ c.dx ≤ 4096) ∧ 1 ≤ c.dy ∧ c.dy ≤ 4096) {l : List Int} {k : Nat} (hl : bdL l k) (r : Nat) : bdL (Hp.resM h p c l r) (k + 1) := by
  have F : Hp.Sep (Hp.fRes p r c) := (Hp.sep_smp hc.1 hc.2).comp Hp.sep_res
  exact bd_add hl (Hp.cells_bd T F).1 (Hp.cells_bd T F).2
theorem totR_len (h : Hp.Hd) (p : Hp.Ps) (c : Hp.Cm) (l : List Int) : ∀ r, (totR h p c l r).length = l.length
  | 0 => rfl
  | r + 1 => by rw [totR_next, Hp.resM, Hp.addL_len, totR_len h p c l r]
theorem totC_len (h : Hp.Hd) (p : Hp.Ps) : ∀ ci, ci ≤ h.cs.length → (totC h p ci).length = (Hp.tl h).length
  | 0, _ => by simp [totC]
  | ci + 1, hc => by rw [totC_next h p (by omega), totR_len, totC_len h p ci (by omega)]
theorem totC_all (h : Hp.Hd) (p : Hp.Ps) : totC h p h.cs.length = Hp.totM h p := by
  unfold totC
  rw [List.take_length]
  rfl
/-- What crowded keeps in memory. -/
structure CrS (W : World) (h : Hp.Hd) (p : Hp.Ps) (sh s s2 : Option Addr) (mh m m2 : Nat) (st : Option Addr) (g : Nat) (tot : List Int) (wr : World) : Prop where
  bl : Below W.heap.size W wr
  bh : Blk wr W.heap.size 26 (hvA h sh mh)
  bp : Blk wr (W.heap.size + 1) 35 (pvA p s m s2 m2)
  ht : Holds wr st (Hp.tl h)
  rg : RowAt wr g tot
  gb : W.heap.size + 1 < g
  sn : ∀ o, st ≠ some ⟨g, o, none⟩
section
variable {W wr w1 : World} {h : Hp.Hd} {p : Hp.Ps} {sh s s2 st : Option Addr} {mh m m2 g : Nat} {tot tot' : List Int}
theorem CrS.below (c : CrS W h p sh s s2 mh m m2 st g tot wr) (hb : Below wr.heap.size wr w1) : CrS W h p sh s s2 mh m m2 st g tot w1 :=
  ⟨c.bl.trans (hb.mono c.bl.size), c.bh.below hb, c.bp.below hb, c.ht.below hb (Nat.le_refl _), c.rg.below hb, c.gb, c.sn⟩
theorem CrS.alloc (c : CrS W h p sh s s2 mh m m2 st g tot wr) (o : Obj) : CrS W h p sh s s2 mh m m2 st g tot (wr.alloc o) := c.below ((Below.refl _ _).alloc (Nat.le_refl _) _)
theorem CrS.add (c : CrS W h p sh s s2 mh m m2 st g tot wr) (hb : But g wr w1) (hr : RowAt w1 g tot') : CrS W h p sh s s2 mh m m2 st g tot' w1 :=
  ⟨But.below c.bl hb (by have := c.gb; omega) c.bl.size, hb.blk c.bh (by have := c.gb; omega), hb.blk c.bp (by have := c.gb; omega), by
    rcases c.ht with q | ⟨b, o, rfl, hr⟩
    · exact .inl q
    · have hn : b ≠ g := fun e => c.sn o (by rw [e])
      exact .inr ⟨b, o, rfl, fun k hk => ⟨hb.cell (hr k hk).1 hn, hb.cell (hr k hk).2.1 hn, hb.cell (hr k hk).2.2.1 hn, hb.cell (hr k hk).2.2.2 hn⟩⟩, hr, c.gb, c.sn⟩
end
/-- The numbers that the walk needs of valid parameters. -/
structure POk (h : Hp.Hd) (p : Hp.Ps) : Prop where
  lev : 0 ≤ p.lev ∧ p.lev ≤ 5
  bx : 2 ≤ p.bx ∧ p.bx ≤ 6
  yb : 2 ≤ p.yb ∧ p.yb ≤ 6
  lay : 1 ≤ p.lay ∧ p.lay ≤ 16
  pre : ∀ r : Int, 0 ≤ r → r ≤ p.lev → (min r 1 ≤ (Hp.precM p r).x ∧ (Hp.precM p r).x ≤ 12) ∧ min r 1 ≤ (Hp.precM p r).y ∧ (Hp.precM p r).y ≤ 12
  cms : ∀ c ∈ h.cs, (1 ≤ c.dx ∧ c.dx ≤ 4096) ∧ 1 ≤ c.dy ∧ c.dy ≤ 4096
  few : h.cs.length ≤ 4
theorem POk.bex {h : Hp.Hd} {p : Hp.Ps} (P : POk h p) {r : Int} (h0 : 0 ≤ r) (h1 : r ≤ p.lev) : (0 ≤ (Hp.bexM p r).x ∧ (Hp.bexM p r).x ≤ 12) ∧ 0 ≤ (Hp.bexM p r).y ∧ (Hp.bexM p r).y ≤ 12 := by
  have a := P.pre r h0 h1
  have b := P.bx
  have c := P.yb
  unfold Hp.bexM
  split <;> dsimp only <;> omega
theorem mem_idx {lev res idx : Int} (hx : Hp.exB lev res = true) (h : idx ∈ Hp.idxL lev res) : 0 ≤ idx ∧ idx ≤ 3 * res ∧ 3 * res ≤ idx + 2 := by
  obtain ⟨a, b, c⟩ := ex_iff.1 hx
  unfold Hp.idxL at h
  rw [if_neg (by rw [hx]; decide)] at h
  by_cases h0 : res = 0
  · subst h0
    rw [if_pos rfl] at h
    obtain rfl : idx = 0 := by simpa using h
    omega
  · rw [if_neg h0] at h
    simp at h
    omega
end Go.Proofs.Ytkcjbehfhcmiaaa
