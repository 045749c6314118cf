/-
  decoded of layer 11's law.
-/
import Derived.Test.YtbaappodeicomaaDoorLd
set_option maxRecDepth 100000
namespace Go.Proofs.YtbaappodeicomaaDoor
open Go.RowKit

/-- A decoder, whatever it is in. -/
def Dk0 (w : World) (B a : Nat) (P : List Int) : Prop := ∃ pv s m bs v rg, DkC w B a pv s m P bs v rg
theorem D0.any {w : World} {B a : Nat} {P : List Int} (h : D0 w B a P) : Dk0 w B a P := h.elim fun pv h => ⟨pv, _, _, _, _, _, h⟩
theorem Ds.any {w : World} {B a : Nat} {x : Am.X} {D : List Int} (h : Ds w B a x D) : Dk0 w B a x.1 := by obtain ⟨pv, s, m, h⟩ := h; exact ⟨pv, _, _, _, _, _, h⟩
section
variable {w w1 : World} {B B' a b : Nat} {P : List Int}
theorem Dk0.fl (h : Dk0 w B a P) : ∀ k, Fp w a k → k < w.heap.size := by obtain ⟨_, _, _, _, _, _, h⟩ := h; exact h.core.fl
theorem Dk0.fp (h : Dk0 w B a P) : ∀ k, Fp w a k → B ≤ k ∧ k < w.heap.size := by obtain ⟨_, _, _, _, _, _, h⟩ := h; exact h.core.fp
theorem Dk0.lt (h : Dk0 w B a P) : a < w.heap.size := by obtain ⟨_, _, _, _, _, _, h⟩ := h; exact h.core.lt
theorem Dk0.keep (h : Dk0 w B a P) (hk : ∀ k, Fp w a k → w1.heap[k]? = w.heap[k]?) : Dk0 w1 B a P := by obtain ⟨pv, s, m, bs, v, rg, h⟩ := h; exact ⟨pv, s, m, bs, v, rg, h.keep hk⟩
theorem Dk0.below (h : Dk0 w B a P) (hb : Below w.heap.size w w1) : Dk0 w1 B a P := h.keep fun k hk => hb.block k (h.fl k hk)
theorem Dk0.kp (h : Dk0 w B b P) (hd : Dj w a b) (hk : Kp a w w1) : Dk0 w1 B b P ∧ Dj w1 a b := ⟨h.keep (hd.kp hk h.fl).2, (hd.kp hk h.fl).1⟩
theorem Dk0.lower (h : Dk0 w B a P) (hB : B' ≤ B) : Dk0 w B' a P := by obtain ⟨pv, s, m, bs, v, rg, h⟩ := h; exact ⟨pv, s, m, bs, v, rg, h.lower hB⟩
theorem Dk0.out (h : Dk0 w B a P) (k : Kp a w w1) : Below B w w1 := by obtain ⟨_, _, _, _, _, _, h⟩ := h; exact h.core.out k
theorem Dk0.start (h : Dk0 w B a P) (s : Option Addr) (m : Nat) (D : List Int) (hH : HoldsB w s D) (hs : s = none → D = [] ∧ m = 0) (hD : Am.bytes D) (hl : D.length ≤ 1000000000) :
    Calls Tryd.prog 34 #[.pointer (some ⟨a, 0, none⟩), .slice s D.length m] w (Started B a P D w) := by
  obtain ⟨pv, s0, m0, bs, v, rg, h⟩ := h
  exact start_c w B a m0 m pv s0 s P bs D v rg h hH hs hD hl
end
theorem step_len' (x : Am.X) (D : List Int) (c : Int) : (Am.step x (c, Am.dnext x D c)).1.length = x.1.length := Am.step_len _ _
/-- While symbols are decoded, all right so far. -/
structure Dec (w0 w : World) (b n : Nat) (P E : List Int) (l : List (Int × Int)) (k : Nat) (W : World) : Prop where
  ds : Ds W w0.heap.size b (Am.run (P, Am.St.init) (l.take k)) E
  kp : Kp b w W
  out : Below w0.heap.size w0 W
  ok : Am.OkX (Am.run (P, Am.St.init) (l.take k))
  len : (Am.run (P, Am.St.init) (l.take k)).1.length = n
  inx : Am.InX (Am.run (P, Am.St.init) (l.take k)) E
  dc : Am.dc (P, Am.St.init) E l = k + Am.dc (Am.run (P, Am.St.init) (l.take k)) E (l.drop k)
theorem drop_cons {l : List (Int × Int)} {k : Nat} (h : k < l.length) : l.drop k = l[k] :: l.drop (k + 1) := List.drop_eq_getElem_cons h
theorem Dec.yes {w0 w W W1 : World} {b n : Nat} {P E : List Int} {l : List (Int × Int)} {k : Nat} (h : Dec w0 w b n P E l k W) (hk : k < l.length) (hE : Am.bytes E) (hs : Am.sym n l[k]) (hv : Am.dnext (Am.run (P, Am.St.init) (l.take k)) E l[k].1 = l[k].2)
    (hd : Ds W1 w0.heap.size b (Am.step (Am.run (P, Am.St.init) (l.take k)) (l[k].1, l[k].2)) E) (hK : Kp b W W1) : Dec w0 w b n P E l (k + 1) W1 := by
  have e : Am.run (P, Am.St.init) (l.take (k + 1)) = Am.step (Am.run (P, Am.St.init) (l.take k)) l[k] := by rw [take_snoc hk, Am.run_snoc]
  have h1 : l[k].1 < (Am.run (P, Am.St.init) (l.take k)).1.length := by rw [h.len]; exact hs.2.1
  refine ⟨by rw [e]; exact hd, h.kp.trans hK, h.out.trans (h.ds.out hK), by rw [e]; exact Am.step_ok h.ok hs.1 h1, by rw [e, Am.step_len]; exact h.len, by rw [e]; exact Am.step_fwd h.ok hE hs.1 h1 h.inx hv, ?_⟩
  rw [h.dc, drop_cons hk, Am.dc, if_pos hv, e]
  omega
theorem Dec.no {w0 w W : World} {b n : Nat} {P E : List Int} {l : List (Int × Int)} {k : Nat} (h : Dec w0 w b n P E l k W) (hk : k < l.length) (hv : Am.dnext (Am.run (P, Am.St.init) (l.take k)) E l[k].1 ≠ l[k].2) : Am.dc (P, Am.St.init) E l = k := by
  rw [h.dc, drop_cons hk, Am.dc, if_neg hv]; omega
/-- After decoded: how many symbols. -/
def DecDone (w0 : World) (b : Nat) (P D : List Int) (l : List (Int × Int)) (w : World) (e : Ending) (w' : World) : Prop :=
  e = .returned (.int .i64 ((Am.dc (P, Am.St.init) (Am.fixd D) l : Nat) : Int)) ∧ (∃ P', Dk0 w' w0.heap.size b P' ∧ (Am.dc (P, Am.St.init) (Am.fixd D) l = l.length → P' = (Am.run (P, Am.St.init) l).1)) ∧ Kp b w w' ∧ Below w0.heap.size w0 w'
set_option maxHeartbeats 4000000 in
theorem decoded_c (w0 w : World) (b n : Nat) (P D : List Int) (l : List (Int × Int)) (s u : Option Addr) (m p : Nat) (h : Dk0 w w0.heap.size b P) (hb : Below w0.heap.size w0 w) (hO : HoldsP w0 s l) (hx : Am.OkX (P, Am.St.init)) (hn : P.length = n) (hn2 : n ≤ 64) (hs : ∀ y ∈ l, Am.sym n y) (hl : l.length ≤ 2000)
    (hH : HoldsB w u D) (hu : u = none → D = [] ∧ p = 0) (hD : Am.bytes D) (hDl : D.length ≤ 1000000) :
    Calls Tryd.prog 42 #[.pointer (some ⟨b, 0, none⟩), .slice s l.length m, .slice u D.length p] w (DecDone w0 b P D l w) := by
  have hst := h.start u p D hH hu hD (by omega)
  unfold DecDone
  obtain ⟨E, hE⟩ : ∃ E, E = Am.fixd D := ⟨_, rfl⟩
  have HEB : Hid (Am.bytes E ∧ E.length ≤ 1000000 ∧ Am.InX (P, Am.St.init) E) := ⟨by rw [hE]; exact Am.fixd_bytes hD, by rw [hE, Am.fixd_len]; exact hDl, by rw [hE]; exact Am.fixd_in hD⟩
  unfold Started at hst
  rw [← hE] at hst ⊢
  have HO := Lib.hid hO
  have HS := Lib.hid hs
  have HX := Lib.hid hx
  have HN := Lib.hid hn
  have HH := Lib.hid h
  have HB := Lib.hid hb
  clear h hb hO hs hx hn hH hu hD hDl hE
  go_enter Tryd.func42, Tryd.ntmps42
  go_wp2_with fail
  refine hst.mono ?_
  rintro e W0 ⟨rfl, hD0, hK0⟩
  have hI : Hid (Dec w0 w b n P E l 0 W0) := ⟨hD0, hK0, HB.out.trans (HH.out.out hK0), HX.out, HN.out, HEB.out.2.2, by simp [Am.run]⟩
  clear hD0 hK0 hst
  go_wp2_with fail
  go_loopw [17] (fun i wr => ∃ (k : Nat), k ≤ l.length ∧ i = .int .i64 (k : Int) ∧ Hid (Dec w0 w b n P E l k wr)) (fun i _ => l.length - (intOf i).toNat)
  case atStart => exact ⟨0, Nat.zero_le _, rfl, hI⟩
  case round =>
    obtain ⟨k, hk, rfl, hT⟩ := hrel
    by_cases hlt : k < l.length
    · obtain ⟨bo, off, rfl, hr⟩ := (HO.out.below hT.out.out (Nat.le_refl _)).at hlt
      obtain ⟨c0, c1⟩ := hr
      have hsy := HS.out _ (List.getElem_mem hlt)
      have HYES : Hid (∀ W1, Am.dnext (Am.run (P, Am.St.init) (l.take k)) E l[k].1 = l[k].2 → Ds W1 w0.heap.size b (Am.step (Am.run (P, Am.St.init) (l.take k)) (l[k].1, l[k].2)) E → Kp b wr W1 → Dec w0 w b n P E l (k + 1) W1) := fun W1 h1 h2 h3 => hT.out.yes hlt HEB.out.1 hsy h1 h2 h3
      have HNO : Hid (Am.dnext (Am.run (P, Am.St.init) (l.take k)) E l[k].1 ≠ l[k].2 → Am.dc (P, Am.St.init) E l = k) := fun h1 => hT.out.no hlt h1
      obtain ⟨q, hq⟩ : ∃ q, q = l[k] := ⟨_, rfl⟩
      obtain ⟨q0, q1⟩ := q
      rw [← hq] at c0 c1 hsy HYES HNO
      dsimp only at c0 c1 HYES HNO
      have hA := (Below.refl wr.heap.size wr).alloc (Nat.le_refl _) (.cells #[.int .i64 q0, .int .i64 q1] 110)
      have hdc := dec_y _ _ b _ E q0 (hT.out.ds.below hA) hT.out.ok hT.out.inx HEB.out.1 HEB.out.2.1 ⟨hsy.1, by rw [hT.out.len]; exact hsy.2.1⟩ (by rw [hT.out.len]; exact hn2)
      have hkA : Hid (Kp b wr (wr.alloc (.cells #[.int .i64 q0, .int .i64 q1] 110))) := Kp.of_below hA hT.out.ds.lt
      have hgf : Hid (¬ Fp (wr.alloc (.cells #[.int .i64 q0, .int .i64 q1] 110)) b wr.heap.size) := fun hf => by
        have := hT.out.ds.fl _ ((fp_same (hA.block b hT.out.ds.lt) _).1 hf)
        omega
      have o0 : Hid (Blk (wr.alloc (.cells #[.int .i64 q0, .int .i64 q1] 110)) wr.heap.size 110 #[.int .i64 q0, .int .i64 q1]) := Blk.new wr _ _
      obtain ⟨v, hv⟩ : ∃ v, v = Am.dnext (Am.run (P, Am.St.init) (l.take k)) E q0 := ⟨_, rfl⟩
      rw [← hv] at hdc HYES HNO
      clear hq hsy hA hv
      go_wp2_with fail
      refine hdc.mono ?_
      rintro e W1 ⟨rfl, hD1, hK1⟩
      have o1 : Blk W1 wr.heap.size 110 #[.int .i64 q0, .int .i64 q1] := (hK1.block _ o0.out.lt hgf.out).trans o0.out
      obtain ⟨d0, d1⟩ := pair2 o1
      have hKK := Lib.hid (hkA.out.trans hK1)
      clear hdc hK1 o1
      by_cases he : v = q1
      · subst he
        have T1 := Lib.hid (HYES.out W1 rfl hD1 hKK.out)
        have hvv : (v != v) = false := by simp
        clear hD1
        go_wp2_with fail
        go_roundw
        case rel => exact ⟨k + 1, by omega, by go_num, T1⟩
        case measure => simp [intOf]; omega
      · have hvv : (v != q1) = true := by simpa using he
        have hr := HNO.out he
        have HD1 := Lib.hid hD1.any
        clear hD1
        have HR := Lib.hid hr
        clear hr
        go_wp2_with fail
        go_ret
        exact ⟨by rw [HR.out]; rfl, ⟨_, HD1.out, fun h => by rw [HR.out] at h; omega⟩, hT.out.kp.trans hKK.out, hT.out.out.trans (hT.out.ds.out hKK.out)⟩
    · obtain rfl : k = l.length := by omega
      have hdd : Hid (Am.dc (P, Am.St.init) E l = l.length) := by
        show _ = _
        have := hT.out.dc
        rw [List.drop_length] at this
        exact this
      go_wp2_with fail
      go_ret
      refine ⟨by rw [hdd.out]; rfl, ⟨_, hT.out.ds.any, fun _ => by rw [List.take_length]⟩, hT.out.kp, hT.out.out⟩
end Go.Proofs.YtbaappodeicomaaDoor
