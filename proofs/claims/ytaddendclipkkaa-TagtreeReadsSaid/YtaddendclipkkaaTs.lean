/-
  Layer 10: small; what the calls of a tree and a writer leave; a leaf coded again.
-/
import Derived.Test.YtaddendclipkkaaTx
import Derived.Test.YtaddendclipkkaaTq
import Derived.Test.YtaddendclipkkaaFrameT
set_option maxRecDepth 100000
namespace Go.Proofs.Ytaddendclipkkaa
open Go.RowKit

theorem HoldsT.call {w w1 : World} {s : Option Addr} {l : List OpT} (h : HoldsT w s l) (hb : Below w.heap.size w w1) : HoldsT w1 s l := h.below hb (Nat.le_refl _)
/-- A call's box. -/
def Bo (W : World) (g : Nat) (o : OpT) : Prop := Blk W g 56 #[.int .i64 o.k, .int .i64 o.x, .int .i64 o.y, .int .i64 o.v]
theorem Bo.cells {W : World} {g : Nat} {o : OpT} (h : Bo W g o) : W.cell? ⟨g, 0, none⟩ = some (.int .i64 o.k) ∧ W.cell? ⟨g, 1, none⟩ = some (.int .i64 o.x) ∧ W.cell? ⟨g, 2, none⟩ = some (.int .i64 o.y) ∧ W.cell? ⟨g, 3, none⟩ = some (.int .i64 o.v) := ⟨Blk.cell h 0, Blk.cell h 1, Blk.cell h 2, Blk.cell h 3⟩
theorem Bo.new (W : World) (o : OpT) : Bo (W.alloc (.cells #[.int .i64 o.k, .int .i64 o.x, .int .i64 o.y, .int .i64 o.v] 56)) W.heap.size o := Blk.new W _ _
section
variable {W0 W W1 : World} {A L a w h D g : Nat} {nd : Nat → Nat} {u : Int} {Q : Nat → Nat → Nat → Nd} {s : List Int} {o : OpT} {B : Nat}
theorem Bo.below (H : Bo W g o) (hb : Below W.heap.size W W1) : Bo W1 g o := Blk.below H hb
theorem not_tfT (H : Tr W B A L nd w h D u Q) {k : Nat} {ty : TypeId} {cs : Array Value} (hb : Blk W k ty cs) (ht : ty ≠ 77 ∧ ty ≠ 94 ∧ ty ≠ 100) : ¬ Tf A L nd D k := fun hk => by
  rcases hk with rfl | rfl | ⟨i, hi, rfl⟩
  · obtain ⟨m, ho⟩ := H.obj
    exact hb.ne ho ht.1 rfl
  · obtain ⟨cs, hl, _⟩ := H.lvs
    exact hb.ne hl ht.2.1 rfl
  · obtain ⟨cs, hn, _⟩ := H.nds i hi
    exact hb.ne hn ht.2.2 rfl
theorem Bo.set (H : Bo W g o) (hT : Tr W B A L nd w h D u Q) (hk : Kf (Tf A L nd D) W W1) : Bo W1 g o := (hk.block g (Blk.lt H) (not_tfT hT H (by decide))).trans H
theorem Bo.enc {B2 : Nat} {s' : List Int} {u' : Int} {Q' : Nat → Nat → Nat → Nd} (H : Bo W g o) (hT : Tr W B A L nd w h D u Q) (hW : Wr W B2 a s) (hE : En W B B2 A L a nd w h D u Q s s' u' Q' W1) : Bo W1 g o :=
  (hE.kf.block g (Blk.lt H) (fun hk => hk.elim (fun hf => not_fp hW H (by decide) hf) (fun ht => not_tfT hT H (by decide) ht))).trans H
end
set_option maxHeartbeats 4000000 in
theorem small_c (w h : Int) (l : List OpT) (s : Option Addr) (m : Nat) (W : World) (HO : HoldsT W s l) : Calls Try.prog 32 #[.int .i64 w, .int .i64 h, .slice s l.length m] W fun e w' => ∃ z : Bool, e = .returned (.bool z) ∧ (z = true → w ≤ 64 ∧ h ≤ 64 ∧ l.length ≤ 100) ∧ Below W.heap.size W w' := by
  by_cases h1 : w ≤ 64 ∧ h ≤ 64 ∧ l.length ≤ 100
  · obtain ⟨a1, a2, a3⟩ := id h1
    have c1 : ¬ (64 : Int) < w := by omega
    have c2 : ¬ (64 : Int) < h := by omega
    have c3 : ¬ (100 : Int) < (l.length : Int) := by omega
    have H1 := Lib.hid h1
    have HO1 := Lib.hid HO
    clear h1 HO a1 a2
    go_enter Try.func32, Try.ntmps32
    go_wp2_with fail
    go_loopw [7, 23] (fun n i wr => ∃ (k : Nat) (v : Int), k ≤ l.length ∧ i = .int .i64 (k : Int) ∧ n = .int .i64 v ∧ Hid (0 ≤ v ∧ v ≤ (k : Int) * 65536 ∧ Below W.heap.size W wr)) (fun _ i _ => l.length - (intOf i).toNat)
    case atStart => exact ⟨0, 0, Nat.zero_le _, rfl, rfl, by omega, by omega, Below.refl _ _⟩
    case round =>
      obtain ⟨k, v, hk, rfl, rfl, hT⟩ := hrel
      by_cases hlt : k < l.length
      · obtain ⟨g, off, hs, oo⟩ := (HO1.out.call hT.out.2.2).at hlt
        subst hs
        obtain ⟨o0, o1, o2, o3⟩ := oo
        generalize l[k] = o at *
        obtain ⟨ok, ox, oy, ov⟩ := o
        dsimp only at *
        have T0 := Lib.hid hT.out
        have hA := below_alloc (Below.refl _ wr) (.cells #[.int .i64 ok, .int .i64 ox, .int .i64 oy, .int .i64 ov] 56)
        have BA := Lib.hid (below_call T0.out.2.2 hA)
        clear hT hA
        by_cases hc : (ok = 1 ∨ ok = 3) ∧ 0 < ov ∧ ov ≤ 65536
        · obtain ⟨hk1, hv1, hv2⟩ := hc
          have wv : IntKind.i64.wrap (v + ov) = v + ov := by have := T0.out; rw [IntWalk.i64_left]; unfold wrap64; omega
          have F : Hid (0 ≤ v + ov ∧ v + ov ≤ ((k + 1 : Nat) : Int) * 65536 ∧ Below W.heap.size W (wr.alloc (.cells #[.int .i64 ok, .int .i64 ox, .int .i64 oy, .int .i64 ov] 56))) := by
            have := T0.out
            exact ⟨by omega, by omega, BA.out⟩
          rcases hk1 with rfl | rfl <;>
           (go_wp2_with fail
            go_roundw
            case rel => exact ⟨k + 1, v + ov, by omega, by go_num, rfl, F⟩
            case measure => simp [intOf]; omega)
        · have F : Hid (0 ≤ v ∧ v ≤ ((k + 1 : Nat) : Int) * 65536 ∧ Below W.heap.size W (wr.alloc (.cells #[.int .i64 ok, .int .i64 ox, .int .i64 oy, .int .i64 ov] 56))) := by
            have := T0.out
            exact ⟨by omega, by omega, BA.out⟩
          have hcs : ((ok == 1) = false ∧ (ok == 3) = false) ∨ (ok = 1 ∧ ¬ 0 < ov) ∨ (ok = 3 ∧ ¬ 0 < ov) ∨ (ok = 1 ∧ 0 < ov ∧ ¬ ov ≤ 65536) ∨ (ok = 3 ∧ 0 < ov ∧ ¬ ov ≤ 65536) := by
            by_cases p1 : ok = 1
            · by_cases p2 : 0 < ov
              · exact .inr (.inr (.inr (.inl ⟨p1, p2, fun p3 => hc ⟨.inl p1, p2, p3⟩⟩)))
              · exact .inr (.inl ⟨p1, p2⟩)
            · by_cases p3 : ok = 3
              · by_cases p2 : 0 < ov
                · exact .inr (.inr (.inr (.inr ⟨p3, p2, fun p4 => hc ⟨.inr p3, p2, p4⟩⟩)))
                · exact .inr (.inr (.inl ⟨p3, p2⟩))
              · exact .inl ⟨by simpa using p1, by simpa using p3⟩
          clear hc
          rcases hcs with ⟨p1, p2⟩ | ⟨rfl, p1⟩ | ⟨rfl, p1⟩ | ⟨rfl, p1, p2⟩ | ⟨rfl, p1, p2⟩ <;>
           (go_wp2_with fail
            go_roundw
            case rel => exact ⟨k + 1, v, by omega, by go_num, rfl, F⟩
            case measure => simp [intOf]; omega)
      · obtain rfl : k = l.length := by omega
        have T0 := Lib.hid hT.out
        clear hT
        go_wp2_with fail
        go_ret
        exact ⟨decide (v ≤ 65536), rfl, fun _ => H1.out, T0.out.2.2⟩
  · have hcs : (64 < w) ∨ (w ≤ 64 ∧ 64 < h) ∨ (w ≤ 64 ∧ h ≤ 64 ∧ (100 : Int) < (l.length : Int)) := by omega
    clear h1 HO
    rcases hcs with p1 | ⟨p1, p2⟩ | ⟨p1, p2, p3⟩ <;>
     (go_enter Try.func32, Try.ntmps32
      go_wp2_with fail
      go_ret
      exact ⟨false, rfl, fun h => by simp at h, Below.refl _ _⟩)
theorem en_again {Q : Nat → Nat → Nat → Nd} {w h D : Nat} {u : Int} {s : List Int} {x y t t2 : Int} (hq : ∀ k x y, 0 ≤ (Q k x y).l ∧ (Q k x y).l ≤ 65536) (hu : u ≠ 2) (hok : okT w h x y t 65536) (h0 : 0 ≤ t2) (h2 : t2 ≤ t) :
    okT w h x y t2 65536 ∧ enS (enQ Q w h D u s x y t) w h D 1 (enS Q w h D u s x y t) x y t2 = enS Q w h D u s x y t ∧ enQ (enQ Q w h D u s x y t) w h D 1 (enS Q w h D u s x y t) x y t2 = enQ Q w h D u s x y t := by
  have hok2 : okT w h x y t2 65536 := ⟨hok.1, h0, by have := hok.2.2; omega⟩
  have hn1 : ¬ (u = 2 ∨ ¬ okT w h x y t 65536) := fun c => c.elim hu (fun c => c hok)
  have hn2 : ¬ ((1 : Int) = 2 ∨ ¬ okT w h x y t2 65536) := fun c => c.elim (by omega) (fun c => c hok2)
  refine ⟨hok2, ?_⟩
  have e1 : enQ Q w h D u s x y t = upP Q x.toNat y.toNat (enP Q D s x.toNat y.toNat t).n D := by unfold enQ; rw [if_neg hn1]
  have e2 : enS Q w h D u s x y t = (enP Q D s x.toNat y.toNat t).s := by unfold enS; rw [if_neg hn1]
  generalize hQ1 : enQ Q w h D u s x y t = Q1 at *
  generalize enS Q w h D u s x y t = s1 at *
  have e3 : enS Q1 w h D 1 s1 x y t2 = (enP Q1 D s1 x.toNat y.toNat t2).s := by unfold enS; rw [if_neg hn2]
  have e4 : enQ Q1 w h D 1 s1 x y t2 = upP Q1 x.toNat y.toNat (enP Q1 D s1 x.toNat y.toNat t2).n D := by unfold enQ; rw [if_neg hn2]
  rw [e3, e4]
  generalize x.toNat = X at *
  generalize y.toNat = Y at *
  have hpath : ∀ k, k < D → Q1 k (X / 2 ^ k) (Y / 2 ^ k) = (enP Q D s X Y t).n k := fun k hk => by rw [e1]; unfold upP; rw [if_pos ⟨hk, rfl, rfl⟩]
  have hdn := pst_dn encG t hok.2.2 (fun k => Q k (X / 2 ^ k) (Y / 2 ^ k)) (fun k => hq _ _ _) D s D (Nat.le_refl _) (enc_e _ _ _ _ _)
  have hbd := pst_bd encG t hok.2.2 (fun k => Q k (X / 2 ^ k) (Y / 2 ^ k)) D s (fun k => hq _ _ _) D
  have hag := pst_again encG t t2 h2 (fun k => Q1 k (X / 2 ^ k) (Y / 2 ^ k)) D s1 (fun k => by
      show 0 ≤ (Q1 k (X / 2 ^ k) (Y / 2 ^ k)).l
      by_cases hk : k < D
      · rw [hpath k hk]; exact (hbd.2.1 k).1
      · rw [e1]; unfold upP; rw [if_neg (fun c => hk c.1)]; exact (hq _ _ _).1)
    (fun k hk => by
      show (Q1 k (X / 2 ^ k) (Y / 2 ^ k)).b = true ∨ t ≤ (Q1 k (X / 2 ^ k) (Y / 2 ^ k)).l
      rw [hpath k hk]; exact hdn.dn k (by omega) hk)
    (fun k hk => by
      show (Q1 (k + 1) (X / 2 ^ (k + 1)) (Y / 2 ^ (k + 1))).l ≤ (Q1 k (X / 2 ^ k) (Y / 2 ^ k)).l
      rw [hpath k (by omega), hpath (k + 1) hk]; exact hdn.up k (by omega) hk) D (Nat.le_refl _)
  refine ⟨hag.2.1, ?_⟩
  funext k a b
  unfold upP
  by_cases hc : k < D ∧ a = X / 2 ^ k ∧ b = Y / 2 ^ k
  · rw [if_pos hc]
    obtain ⟨hk, rfl, rfl⟩ := hc
    exact hag.2.2.1 k
  · rw [if_neg hc]
end Go.Proofs.Ytaddendclipkkaa
