/-
  Facts that the laws of layer 11 share.
-/
import Derived.Test.YtbaappodeicomaaDoorLe
set_option maxRecDepth 100000
namespace Go.Proofs.YtbaappodeicomaaDoor
open Go.RowKit

theorem after_ok {n : Nat} {l : List (Int × Int)} {P : List Int} (hx : Am.OkX (P, Am.St.init)) (hn : P.length = n) (hs : ∀ y ∈ l, Am.sym n y) : Am.OkX ((Am.run (P, Am.St.init) l).1, Am.St.init) ∧ (Am.run (P, Am.St.init) l).1.length = n :=
  ⟨⟨(Am.run_ok l _ hx hn hs).ps, Am.ok_init⟩, (Am.run_len l _).trans hn⟩
theorem cw_small {n : Nat} {l : List (Int × Int)} {P : List Int} (hx : Am.OkX (P, Am.St.init)) (hn : P.length = n) (hs : ∀ y ∈ l, Am.sym n y) (hl : l.length ≤ 2000) : (Am.cw (Am.run (P, Am.St.init) l).2).length ≤ 2001 := by
  have h1 := (Am.run_n l _ hx hn hs).2
  have h2 := Am.cw_len (Am.run (P, Am.St.init) l).2
  have h3 : (P, Am.St.init).2.n = 0 := rfl
  omega
/-- A codeword stays while another object changes. -/
theorem holdsB_kp {w w1 : World} {a : Nat} {s : Option Addr} {bs : List Int} (h : HoldsB w s bs) (hk : Kp a w w1) (hs : ∀ p, s = some p → (∃ ds, Blk w p.block 5 ds) ∧ ¬ Fp w a p.block) : HoldsB w1 s bs :=
  holdsB_far h fun p hp => by
    obtain ⟨⟨ds, hb⟩, hf⟩ := hs p hp
    exact hk.block _ hb.lt hf
theorem blk_kp {w w1 : World} {a k : Nat} {t : TypeId} (hk : Kp a w w1) (hb : ∃ ds, Blk w k t ds) (hf : ¬ Fp w a k) : ∃ ds, Blk w1 k t ds := by
  obtain ⟨ds, h⟩ := hb
  exact ⟨ds, (hk.block _ h.lt hf).trans h⟩
theorem cw_last {s : Am.St} (h : 0 < (Am.cw s).length) : (Am.cw s).getD ((Am.cw s).length - 1) 0 ≠ 0 := (Am.trim_pre _).2.2.2 h
end Go.Proofs.YtbaappodeicomaaDoor
