/-
  What a call of a writer wrote is read by the same call of a reader; a slice of calls of the law's own.
-/
import Derived.Test.YtdhjmbjpigiadaaLawB
import Derived.Test.YtdhjmbjpigiadaaBl
import Derived.Test.YtdhjmbjpigiadaaRd2
set_option maxRecDepth 100000
namespace Go.Proofs.Ytdhjmbjpigiadaa
open Go.RowKit

/-- A call that a writer accepts. -/
def Good (q : Int × Int × Int) : Prop := (0 ≤ q.1 ∧ q.1 ≤ 3) ∧ wrE q.1 q.2.1 q.2.2 = 0
theorem op_at {bs L : List Int} (hL : Bi.bits L) (h : Bi.Begins bs L) (A C : List Int) (q : Int × Int × Int) (hq : Good q) (e : L = A ++ wrM q.1 q.2.1 q.2.2 ++ C) :
    rdR bs (Bi.P L A.length) q.1 (if q.1 = 3 then q.2.1 else q.2.2) = (q.2.1, 0, Bi.P L (A.length + (wrM q.1 q.2.1 q.2.2).length)) := by
  obtain ⟨k, v, n⟩ := q
  obtain ⟨hk, hE⟩ := hq
  simp only at hk hE e ⊢
  rcases (show k = 0 ∨ k = 1 ∨ k = 2 ∨ k = 3 by omega) with rfl | rfl | rfl | rfl
  · have hE' : bitsC v 1 = 0 := hE
    have hok : okB v 1 = true := by
      unfold bitsC at hE'
      cases hc : okB v 1 with
      | true => rfl
      | false => rw [hc] at hE'; simp at hE'
    have hb : Bi.bit v := by rw [put_ok] at hok; exact (of_decide_eq_true hok : v = 0 ∨ v = 1)
    have hM : wrM 0 v n = [v] := (bit_put hb).1
    rw [hM] at e ⊢
    have hj : A.length < L.length := by rw [e]; simp
    obtain ⟨g1, g2, g3⟩ := Bi.get_at hL h hj
    have hv : L[A.length] = v := by simp [e]
    show (Bi.gR bs _, Bi.gE bs _, Bi.gN bs _) = _
    rw [g1, g2, g3, hv]
    rfl
  · have hE' : bitsC v n = 0 := hE
    have hok : okB v n = true := by
      unfold bitsC at hE'
      cases hc : okB v n with
      | true => rfl
      | false => rw [hc] at hE'; simp at hE'
    have hok' := hok
    simp only [okB, decide_eq_true_eq] at hok'
    obtain ⟨N, rfl⟩ : ∃ N : Nat, n = N := ⟨n.toNat, by omega⟩
    obtain ⟨x, rfl⟩ : ∃ x : Nat, v = x := ⟨v.toNat, by omega⟩
    have hM : wrM 1 x N = Bi.dig x N := by show bitsM _ _ = _; unfold bitsM; rw [if_pos hok]; rfl
    rw [hM] at e ⊢
    have hd := Bi.rdg_dig hL h A C x N 0 e
    have hlt : x < 2 ^ N := by
      have h3 := hok'.2.2.2
      have e2 : (2 : Int) ^ N = ((2 ^ N : Nat) : Int) := by simp
      simp only [Int.toNat_natCast] at h3
      rw [e2] at h3; omega
    rw [Nat.mod_eq_of_lt hlt, Int.zero_mul, Int.zero_add] at hd
    have hdg : dgB (N : Int) = true := by simp [dgB]; omega
    show (rbV bs _ _, rbE bs _ _, rbT bs _ _) = _
    unfold rbV rbE rbT
    simp only [if_neg (show ¬ (1 : Int) = 3 by decide), hdg, if_true, Int.toNat_natCast, hd, Bi.dig_len]
  · have hE' : gamC v = 0 := hE
    have hok : gamB v = true := by
      unfold gamC at hE'
      cases hc : gamB v with
      | true => rfl
      | false => rw [hc] at hE'; simp at hE'
    have hok' : 1 ≤ v ∧ v < 4294967296 := by simpa [gamB] using hok
    obtain ⟨x, rfl⟩ : ∃ x : Nat, v = x := ⟨v.toNat, by omega⟩
    obtain ⟨b1, b2, b3, b4⟩ := bl_bd (n := x) (by omega) (by omega)
    have hlt : (x : Int) < 2 ^ Lib.bitLen x := by
      have e2 : (2 : Int) ^ Lib.bitLen x = ((2 ^ Lib.bitLen x : Nat) : Int) := by simp
      rw [e2]; omega
    have hM : wrM 2 x n = List.replicate (Lib.bitLen x - 1) 0 ++ Bi.dig x (Lib.bitLen x) := by
      show gamM _ = _
      unfold gamM
      rw [if_pos hok, ← Bi.dig_lead (by omega) hlt, Bi.gam, Int.toNat_natCast]
      congr 1
      omega
    rw [hM] at e ⊢
    have hg := Bi.rgam_at hL h A C x (Lib.bitLen x) b1 b2 b3 b4 e
    show fst3 (Bi.rgam bs _) _ = _
    rw [hg]
    simp [fst3, Bi.dig_len]
    congr 1
    omega
  · have hE' : unaC v = 0 := hE
    have hok : unB v = true := by
      unfold unaC at hE'
      cases hc : unB v with
      | true => rfl
      | false => rw [hc] at hE'; simp at hE'
    have hok' : 0 ≤ v ∧ v ≤ 65535 := by simpa [unB] using hok
    obtain ⟨x, rfl⟩ : ∃ x : Nat, v = x := ⟨v.toNat, by omega⟩
    have hM : wrM 3 x n = List.replicate x 1 ++ [0] := by show unaM _ = _; unfold unaM; rw [if_pos hok]; rfl
    rw [hM] at e ⊢
    have hg := Bi.rrun_list hL h (q := 1) (p := 0) (by decide) x A C (x + 1) 0 e (by omega)
    show ruR bs _ _ = _
    unfold ruR
    simp only [if_true, hok, Int.toNat_natCast, hg, fst3, Nat.zero_add]
    simp
    congr 1
theorem infoO : (Try.prog.info? 30).map (fun i => (i.zero, i.size, i.bytes)) = some (some (.agg #[.int .i64 0, .int .i64 0, .int .i64 0]), 3, 24) := by kernel_rfl
/-- The cells of a list of calls. -/
def opC (G : List (Int × Int × Int)) : List Value := (G.map fun q => [Value.int .i64 q.1, .int .i64 q.2.1, .int .i64 q.2.2]).flatten
theorem opC_len (G : List (Int × Int × Int)) : (opC G).length = G.length * 3 := by
  induction G with
  | nil => rfl
  | cons q G ih => simp [opC] at ih ⊢; omega
theorem opC_snoc (G : List (Int × Int × Int)) (q : Int × Int × Int) : opC (G ++ [q]) = opC G ++ [Value.int .i64 q.1, .int .i64 q.2.1, .int .i64 q.2.2] := by simp [opC]
theorem opC_at : ∀ (G : List (Int × Int × Int)) (k : Nat) (hk : k < G.length), (opC G)[k * 3]? = some (.int .i64 G[k].1) ∧ (opC G)[k * 3 + 1]? = some (.int .i64 G[k].2.1) ∧ (opC G)[k * 3 + 2]? = some (.int .i64 G[k].2.2)
  | q :: G, 0, _ => by simp [opC]
  | q :: G, k + 1, hk => by
    have ih := opC_at G k (by simpa using hk)
    have e : opC (q :: G) = Value.int .i64 q.1 :: .int .i64 q.2.1 :: .int .i64 q.2.2 :: opC G := by simp [opC]
    rw [e, show (k + 1) * 3 = k * 3 + 3 by omega]
    simpa using ih
theorem holdsO_own {w : World} {base : Nat} {v : Value} {n : Nat} {G : List (Int × Int × Int)} (h : w.ownsRow base 30 3 v n (opC G)) : n = G.length ∧ ∃ s m, v = .slice s G.length m ∧ HoldsO w s G := by
  obtain ⟨h1, h2⟩ := h
  rw [opC_len] at h1
  have hn : n = G.length := by omega
  subst hn
  refine ⟨rfl, ?_⟩
  rcases h2 with ⟨rfl, h0⟩ | ⟨g, cap, cur, rfl, hb, hg, hc, hm, hs, ht⟩
  · obtain rfl := List.length_eq_zero_iff.1 h0
    exact ⟨none, 0, rfl, .inl rfl⟩
  · refine ⟨_, cap, rfl, .inr ⟨g, 0, rfl, fun k hk => ?_⟩⟩
    have key : ∀ i, i < G.length * 3 → w.cell? ⟨g, i, none⟩ = (opC G)[i]? := fun i hi => by
      rw [← ht, List.getElem?_take_of_lt (by omega), Array.getElem?_toList]
      simp [World.cell?, hg]
    obtain ⟨a0, a1, a2⟩ := opC_at G k hk
    rw [Nat.zero_add]
    exact ⟨(key _ (by omega)).trans a0, (key _ (by omega)).trans a1, (key _ (by omega)).trans a2⟩
theorem own_keep {w w1 : World} {base n : Nat} {e : TypeId} {size : Nat} {v : Value} {xs : List Value} (h : w.ownsRow base e size v n xs) (hk : ∀ g cs, v.ownBlock = some g → Blk w g e cs → w1.heap[g]? = w.heap[g]?) : w1.ownsRow base e size v n xs := by
  obtain ⟨h1, h2⟩ := h
  refine ⟨h1, ?_⟩
  rcases h2 with h2 | ⟨g, cap, cur, rfl, h3, h4, h5⟩
  · exact .inl h2
  · exact .inr ⟨g, cap, cur, rfl, h3, (hk g cur rfl h4).trans h4, h5⟩
theorem own_blkO {w : World} {base n : Nat} {e : TypeId} {size : Nat} {v : Value} {xs : List Value} (h : w.ownsRow base e size v n xs) {g : Nat} (hg : v.ownBlock = some g) : ∃ cs, Blk w g e cs := by
  rcases h.2 with ⟨rfl, _⟩ | ⟨g', cap, cur, rfl, _, hh, _⟩
  · simp [Value.ownBlock] at hg
  · obtain rfl : g' = g := by simpa [Value.ownBlock] using hg
    exact ⟨cur, hh⟩
/-- The writer, and the calls that it accepted. -/
structure Wg (w : World) (a : Nat) (L : List Int) (gv : Value) (G : List (Int × Int × Int)) (W : World) : Prop where
  wr : Wr W w.heap.size a L
  own : W.ownsRow w.heap.size 30 3 gv G.length (opC G)
  below : Below w.heap.size w W
  good : ∀ q ∈ G, Good q
  eq : L = wrL G
section
variable {w W W1 W2 : World} {a : Nat} {L L1 : List Int} {gv gv' : Value} {G : List (Int × Int × Int)} {q : Int × Int × Int}
theorem Wg.step (h : Wg w a L gv G W) (hb : Below W.heap.size W W1) : Wg w a L gv G W1 :=
  ⟨h.wr.below hb, own_keep h.own (fun g _ _ hB => hb.block g hB.lt), below_call h.below hb, h.good, h.eq⟩
theorem Wg.write (h : Wg w a L gv G W) (hW : Wr W1 w.heap.size a L1) (hK : Kp a W W1) (hL : L1 = L) : Wg w a L gv G W1 := by
  subst hL
  exact ⟨hW, own_keep h.own (fun g _ _ hB => hK.block g hB.lt (h.wr.notop hB)), h.below.trans (h.wr.out hK), h.good, h.eq⟩
theorem Wg.push {X : Obj} (h : Wg w a L gv G W) (hq : Good q) (hW : Wr W1 w.heap.size a (L ++ wrM q.1 q.2.1 q.2.2)) (hK : Kp a W W1) (hg : (W1.alloc X).grownBy W2 gv.ownBlock) (hown : W2.ownsRow w.heap.size 30 3 gv' (G.length + 1) (opC G ++ [Value.int .i64 q.1, .int .i64 q.2.1, .int .i64 q.2.2])) :
    Wg w a (L ++ wrM q.1 q.2.1 q.2.2) gv' (G ++ [q]) W2 := by
  have hown1 : W1.ownsRow w.heap.size 30 3 gv G.length (opC G) := own_keep h.own (fun g _ _ hB => hK.block g hB.lt (h.wr.notop hB))
  have hA : Below W1.heap.size W1 (W1.alloc X) := (Below.refl _ _).alloc (Nat.le_refl _) _
  have hownA : (W1.alloc X).ownsRow w.heap.size 30 3 gv G.length (opC G) := own_keep hown1 (fun g _ _ hB => hA.block g hB.lt)
  have hWA := hW.below hA
  have hBA := (h.below.trans (h.wr.out hK)).trans (hA.mono (by have := h.below.size; have := hK.size; omega))
  refine ⟨hWA.keep fun k hk => hg.block k (hWA.fl k hk) fun e => ?_, by rw [List.length_append, opC_snoc]; exact hown, hBA.grown hg hBA.size (fun k hk => (hownA.lt k hk).1), fun p hp => ?_, by rw [wrL_snoc, h.eq]⟩
  · obtain ⟨cs, hB⟩ := own_blkO hownA e.symm
    exact hWA.notop hB hk
  · rcases List.mem_append.1 hp with h1 | h1
    · exact h.good p h1
    · simp at h1; subst h1; exact hq
end
theorem wrE_cases (k v n : Int) : wrE k v n = 0 ∨ (wrE k v n = 1 ∧ wrM k v n = []) := by
  have hb : ∀ v n, bitsC v n = 0 ∨ (bitsC v n = 1 ∧ bitsM v n = []) := fun v n => by unfold bitsC bitsM; cases okB v n <;> simp
  have hg : ∀ v, gamC v = 0 ∨ (gamC v = 1 ∧ gamM v = []) := fun v => by unfold gamC gamM; cases gamB v <;> simp
  have hu : ∀ v, unaC v = 0 ∨ (unaC v = 1 ∧ unaM v = []) := fun v => by unfold unaC unaM; cases unB v <;> simp
  unfold wrE wrM
  split
  · exact hb _ _
  split
  · exact hb _ _
  split
  · exact hg _
  split
  · exact hu _
  exact .inl rfl
theorem wrM_else {k v n : Int} (h : k < 0 ∨ 3 < k) : wrM k v n = [] := by
  unfold wrM
  rw [if_neg (by omega), if_neg (by omega), if_neg (by omega), if_neg (by omega)]
theorem one_op (W : World) (x y z : Value) (T : TypeId) : ∀ j u, ([x, y, z] : List Value)[j]? = some u → (W.alloc (.cells #[x, y, z] T)).cell? ((⟨W.heap.size, 0, none⟩ : Addr).add j) = some u := by
  intro j u hj
  match j, hj with
  | 0, hj => simp at hj; subst hj; simp [Addr.add]
  | 1, hj => simp at hj; subst hj; simp [Addr.add]
  | 2, hj => simp at hj; subst hj; simp [Addr.add]
theorem oneOp (x y z : Int) : ∀ u ∈ ([.int .i64 x, .int .i64 y, .int .i64 z] : List Value), u.oneCell' = true := by
  intro u hu; simp at hu; rcases hu with rfl | rfl | rfl <;> rfl
theorem P_le {bs L : List Int} (hL : Bi.bits L) (h : Bi.Begins bs L) {j : Nat} (hj : j ≤ L.length) : Bi.P L j ≤ 8 * bs.length := by
  have c := Bi.read_at hL h (L.length - j) j (by omega)
  have := c.pos
  have := c.le
  omega
theorem enc_bytes {L : List Int} (hL : Bi.bits L) : Bi.bytes (Bi.enc L) := by
  have h := (Bi.st_ok hL).byte
  unfold Bi.enc Bi.fin
  split
  · intro x hx
    rcases List.mem_append.1 hx with h1 | h1
    · exact h x h1
    · simp at h1; subst h1; decide
  · exact h
theorem begins_app {L mo : List Int} (hL : Bi.bits L) (hm : Bi.bytes mo) : Bi.Begins (Bi.enc L ++ mo) L :=
  ⟨fun x hx => (List.mem_append.1 hx).elim (enc_bytes hL x) (hm x), mo, rfl⟩
theorem enc_le (L : List Int) : (Bi.enc L).length ≤ L.length + 1 := by
  have := Bi.st_len L
  unfold Bi.enc Bi.fin
  split
  · rw [List.length_append]; simp; omega
  · omega
theorem good_at {L : List Int} {G : List (Int × Int × Int)} (e : L = wrL G) (j : Nat) (hj : j < G.length) : L = wrL (G.take j) ++ wrM G[j].1 G[j].2.1 G[j].2.2 ++ wrL (G.drop (j + 1)) ∧ wrL (G.take (j + 1)) = wrL (G.take j) ++ wrM G[j].1 G[j].2.1 G[j].2.2 := by
  have h1 : wrL (G.take (j + 1)) = wrL (G.take j) ++ wrM G[j].1 G[j].2.1 G[j].2.2 := by
    rw [List.take_succ_eq_append_getElem hj, wrL_snoc]
  refine ⟨?_, h1⟩
  rw [← h1, e]
  simp only [wrL, List.map_take, List.map_drop]
  rw [← List.flatten_append, List.take_append_drop]
theorem Rd.notop {w : World} {B a g : Nat} {l : List Int} {t : Nat} {cs : Array Value} (h : Rd w B a l t) (hg : Blk w g 30 cs) : ¬ Fp w a g := by
  obtain ⟨sv, h⟩ := h
  rintro (rfl | ⟨v, hv, hk⟩)
  · exact Blk.ne (t := 30) hg h.blk (by decide) rfl
  · rw [show w.cell? ⟨a, 1, none⟩ = some sv from h.blk.cell 1] at hv
    obtain rfl := Option.some.inj hv
    exact own_blk_ne h.own hg (by decide) hk
/-- The reader of the bytes, and the calls. -/
structure Rg (x : World) (r : Nat) (bs : List Int) (t : Nat) (W : World) : Prop where
  rd : Rd W x.heap.size r bs t
  below : Below x.heap.size x W
theorem Rg.step {x W W1 : World} {r : Nat} {bs : List Int} {t : Nat} (h : Rg x r bs t W) (hb : Below W.heap.size W W1) : Rg x r bs t W1 := ⟨h.rd.below hb, below_call h.below hb⟩
theorem Rg.read {x W W1 : World} {r : Nat} {bs : List Int} {t t' : Nat} (h : Rg x r bs t W) (hR : Rd W1 x.heap.size r bs t') (hK : Kp r W W1) : Rg x r bs t' W1 := ⟨hR, h.below.trans (h.rd.out hK)⟩
end Go.Proofs.Ytdhjmbjpigiadaa
