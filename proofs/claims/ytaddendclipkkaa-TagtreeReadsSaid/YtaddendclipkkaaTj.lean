/-
  Layer 10: a tree, a writer and a reader side by side.
-/
import Derived.Test.YtaddendclipkkaaTn
set_option maxRecDepth 100000
namespace Go.Proofs.Ytaddendclipkkaa
open Go.RowKit

theorem fp_back {w w1 : World} {a k : Nat} (hb : Below w.heap.size w w1) (ha : a < w.heap.size) (hk : Fp w1 a k) : Fp w a k := by
  rcases hk with rfl | ⟨v, hv, hk⟩
  · exact .inl rfl
  · exact .inr ⟨v, by rw [hb.cell (p := ⟨a, 1, none⟩) ha] at hv; exact hv, hk⟩
theorem Rd.low {w : World} {B B' a : Nat} {l : List Int} {t : Nat} (h : Rd w B a l t) (hB : B' ≤ B) : Rd w B' a l t := by
  obtain ⟨sv, h⟩ := h
  refine ⟨sv, Nat.le_trans hB h.ge, h.blk, h.own.1, ?_⟩
  rcases h.own.2 with h2 | ⟨g, cap, cur, hv, h3, h4⟩
  · exact .inl h2
  · exact .inr ⟨g, cap, cur, hv, Nat.le_trans hB h3, h4⟩
/-- A tree, a writer and a reader, all made since a world. -/
structure Th3 (W0 : World) (A L a r : Nat) (nd : Nat → Nat) (w h D : Nat) (u : Int) (Q : Nat → Nat → Nat → Nd) (s : List Int) (bs : List Int) (tt : Nat) (W : World) : Prop where
  tw : Tw W0 A L a nd w h D u Q s W
  rd : Rd W W0.heap.size r bs tt
  dj : ∀ k, Fp W a k → ¬ Fp W r k
section
variable {W0 W W1 W2 : World} {A L a r w h D : Nat} {nd : Nat → Nat} {u : Int} {Q : Nat → Nat → Nat → Nd} {s bs : List Int} {tt : Nat}
theorem Th3.start (H : Tw W0 A L a nd w h D u Q s W) (hR : Rd W1 W.heap.size r bs tt) (hb : Below W.heap.size W W1) : Th3 W0 A L a r nd w h D u Q s bs tt W1 :=
  ⟨H.step hb, hR.low H.below.size, fun k h1 h2 => by
    have := (H.wr.foot k (fp_back hb H.wr.lt h1)).2
    have := (hR.foot k h2).1
    omega⟩
theorem Th3.step (H : Th3 W0 A L a r nd w h D u Q s bs tt W) (hb : Below W.heap.size W W1) : Th3 W0 A L a r nd w h D u Q s bs tt W1 :=
  ⟨H.tw.step hb, H.rd.below hb, fun k h1 h2 => H.dj k (fp_back hb H.tw.wr.lt h1) (fp_back hb H.rd.lt h2)⟩
theorem Th3.enc {s' : List Int} {u' : Int} {Q' : Nat → Nat → Nat → Nd} (H : Th3 W0 A L a r nd w h D u Q s bs tt W) (hE : En W W0.heap.size W0.heap.size A L a nd w h D u Q s s' u' Q' W1) : Tw W0 A L a nd w h D u' Q' s' W1 ∧ Rd W1 W0.heap.size r bs tt :=
  ⟨(H.tw.enc hE).1, H.rd.keep fun k hk => hE.kf.block k (H.rd.foot k hk).2 fun hn => hn.elim (fun hf => H.dj k hf hk) (fun ht => not_tfR H.rd H.tw.tr k hk ht)⟩
theorem Th3.dec {tt' : Nat} {u' : Int} {Q' : Nat → Nat → Nat → Nd} (H : Th3 W0 A L a r nd w h D u Q s bs tt W) (hE : De W W0.heap.size W0.heap.size A L r nd w h D bs tt' u' Q' W1) : Tw W0 A L a nd w h D u' Q' s W1 ∧ Rd W1 W0.heap.size r bs tt' :=
  ⟨⟨hE.tr, H.tw.wr.keep fun k hk => hE.kf.block k (H.tw.wr.foot k hk).2 fun hn => hn.elim (fun hf => H.dj k hk hf) (fun ht => not_tf H.tw.wr H.tw.tr k hk ht), H.tw.bits, H.tw.below.trans (hE.kf.below (fun k hk => hk.elim (fun hf => (H.rd.foot k hf).1) (fun ht => (H.tw.tr.foot k ht).1)) H.tw.below.size)⟩, hE.rd⟩
end
/-- Decode up to the threshold 0 of a new tree reads nothing. -/
theorem de_zero {bs : List Int} {f : Nat → Nat → Int} {w h D : Nat} {x y : Int} (hin : inT w h x y) : deE bs (mkQ w h f xl0 xb0) w h D 0 0 x y 0 = 0 ∧ deB bs (mkQ w h f xl0 xb0) w h D 0 0 x y 0 = false ∧ deU bs (mkQ w h f xl0 xb0) w h D 0 0 x y 0 = 2 := by
  have hok : okT w h x y 0 65536 := ⟨hin, by omega, by omega⟩
  have hag := pst_again (decG bs) 0 0 (Int.le_refl _) (fun k => mkQ w h f xl0 xb0 k (x.toNat / 2 ^ k) (y.toNat / 2 ^ k)) D 0 (fun k => Int.le_refl _) (fun k _ => .inr (Int.le_refl _)) (fun k _ => Int.le_refl _) D (Nat.le_refl _)
  have he : deE bs (mkQ w h f xl0 xb0) w h D 0 0 x y 0 = 0 := by
    unfold deE deP
    rw [if_neg (by omega), if_pos hok]
    exact hag.1
  refine ⟨he, ?_, by unfold deU; rw [if_pos he]⟩
  unfold deB
  rw [if_pos he]
  unfold deP
  rw [hag.2.2.1 0]
  rfl
end Go.Proofs.Ytaddendclipkkaa
