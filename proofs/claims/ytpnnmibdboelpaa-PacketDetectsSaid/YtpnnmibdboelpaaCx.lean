/-
  A packet as an argument, opened with its size.
-/
import Derived.Test.YtpnnmibdboelpaaCw
import Derived.SizedLaws
set_option maxRecDepth 100000
namespace Go.Proofs.Ytpnnmibdboelpaa
open Go.ChangeShapes Go.WideShapes Go.ChangeAt Go.RowKit Go.Joins Go.Deep

theorem bytes_size {H : Type} {enc : TypeId × Value → H} {w : World} {fuel : Nat} {a : Option Addr} {N cap : Nat} {x : DataW H × List MemPlace}
    (h' : DataW.trod enc Try.prog w 0 (fun _ => true) true fuel 22 [.slice a N cap] = some x) (hz : ∀ n ∈ x.1.weights Try.prog 22, n ≤ reachBytes) : N ≤ reachBytes := by
  rcases open_slice1 Try.underlying22 cells8 h' with ⟨hcs, _⟩ | ⟨a', len, cap', m, k, V, D, Pl', hcs, _, hl, hm, hmm, hx, hi⟩
  · simp at hcs
    obtain ⟨_, rfl, _⟩ := hcs
    exact Nat.zero_le _
  · simp at hcs
    obtain ⟨rfl, rfl, rfl⟩ := hcs
    have h1 : (N + (m - N)) * Try.prog.bytesOf 5 ≤ reachBytes := by
      refine hz _ ?_
      rw [hx]
      simp [DataW.weights, Try.underlying22]
    have h2 : Try.prog.bytesOf 5 = 1 := by kernel_rfl
    rw [h2] at h1
    omega
/-- An argument that is a packet. -/
theorem open_pktZ {H : Type} {enc : TypeId × Value → H} {w : World} {r : Reach} {b0 : Nat} {v : Value} {d : DataW H} {p : List MemPlace}
    (hv : Value.okWide Try.prog w r b0 29 v) (h : DataW.Trod enc Try.prog w 0 (fun _ => true) true 29 v d p) (hz : ∀ n ∈ d.weights Try.prog 29, n ≤ reachBytes) :
    ∃ (i j k l : Int) (sh sb : Option Addr) (hd bd : List Int) (mh mb : Nat), v = .agg #[.int .i64 i, .int .i64 j, .int .i64 k, .int .i64 l, .slice sh hd.length mh, .slice sb bd.length mb] ∧
      (HoldsB w sh hd ∧ Mk.bytes hd ∧ hd.length ≤ mh ∧ mh ≤ maxLen ∧ (sh = none → hd = [] ∧ mh = 0)) ∧ (HoldsB w sb bd ∧ Mk.bytes bd ∧ bd.length ≤ mb ∧ mb ≤ maxLen ∧ (sb = none → bd = [] ∧ mb = 0)) ∧ hd.length + bd.length ≤ 300000000000000 := by
  obtain ⟨cs, rfl, hsz⟩ := okWide_struct Try.underlying29 hv
  obtain ⟨c0, c1, c2, c3, c4, c5, rfl⟩ := arr6' _ (hsz.trans (by kernel_rfl))
  obtain ⟨fuel, hf⟩ := h
  obtain ⟨xs, n, _, hxd, _, hl, hg⟩ := DataW.trod_struct Try.underlying29 hf
  have hx : ∀ j, j < 3 → ∃ y, xs[j]? = some y := fun j hj => ⟨_, List.getElem?_eq_getElem (by rw [hl]; exact hj)⟩
  obtain ⟨y0, e0⟩ := hx 0 (by decide)
  obtain ⟨y1, e1⟩ := hx 1 (by decide)
  obtain ⟨y2, e2⟩ := hx 2 (by decide)
  have t0 : DataW.trod enc Try.prog w 0 (fun _ => true) true n 27 [c0, c1, c2, c3] = some y0 := (hg 0 _ rfl).trans e0
  have t1 : DataW.trod enc Try.prog w 0 (fun _ => true) true n 22 [c4] = some y1 := (hg 1 _ rfl).trans e1
  have t2 : DataW.trod enc Try.prog w 0 (fun _ => true) true n 22 [c5] = some y2 := (hg 2 _ rfl).trans e2
  obtain ⟨zs, n2, _, _, _, hl2, hg2⟩ := DataW.trod_struct Try.underlying27 t0
  have hzs : ∀ j, j < 4 → ∃ y, zs[j]? = some y := fun j hj => ⟨_, List.getElem?_eq_getElem (by rw [hl2]; exact hj)⟩
  obtain ⟨z0, g0⟩ := hzs 0 (by decide)
  obtain ⟨z1, g1⟩ := hzs 1 (by decide)
  obtain ⟨z2, g2⟩ := hzs 2 (by decide)
  obtain ⟨z3, g3⟩ := hzs 3 (by decide)
  have u0 : DataW.trod enc Try.prog w 0 (fun _ => true) true n2 3 [c0] = some z0 := (hg2 0 _ rfl).trans g0
  have u1 : DataW.trod enc Try.prog w 0 (fun _ => true) true n2 3 [c1] = some z1 := (hg2 1 _ rfl).trans g1
  have u2 : DataW.trod enc Try.prog w 0 (fun _ => true) true n2 3 [c2] = some z2 := (hg2 2 _ rfl).trans g2
  have u3 : DataW.trod enc Try.prog w 0 (fun _ => true) true n2 3 [c3] = some z3 := (hg2 3 _ rfl).trans g3
  obtain ⟨i, f0, _, _⟩ := DataW.trod_int Try.underlying3 u0
  obtain ⟨j, f1, _, _⟩ := DataW.trod_int Try.underlying3 u1
  obtain ⟨k, f2, _, _⟩ := DataW.trod_int Try.underlying3 u2
  obtain ⟨l, f3, _, _⟩ := DataW.trod_int Try.underlying3 u3
  simp at f0 f1 f2 f3
  subst f0 f1 f2 f3
  obtain ⟨sh, hd, mh, rfl, hH⟩ := open_bytesT t1
  obtain ⟨sb, bd, mb, rfl, hB⟩ := open_bytesT t2
  have hd' : d = .agg (xs.map (·.1)) := by simp only [Prod.mk.injEq] at hxd; exact hxd.1
  have z1 := bytes_size t1 (fun n hn => hz n (by
    rw [hd']
    simp only [DataW.weights, Try.underlying29]
    exact DataW.weights_mem_each (j := 1) rfl (by rw [List.getElem?_map, e1]; rfl) n hn))
  have z2 := bytes_size t2 (fun n hn => hz n (by
    rw [hd']
    simp only [DataW.weights, Try.underlying29]
    exact DataW.weights_mem_each (j := 2) rfl (by rw [List.getElem?_map, e2]; rfl) n hn))
  exact ⟨i, j, k, l, sh, sb, hd, bd, mh, mb, rfl, hH, hB, by unfold reachBytes at z1 z2; omega⟩
end Go.Proofs.Ytpnnmibdboelpaa
