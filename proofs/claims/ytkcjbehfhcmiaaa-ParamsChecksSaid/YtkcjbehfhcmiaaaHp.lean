/-
  Layer 23: headers and coding parameters as data, and what the chapter asks of them. No program in sight.
-/
import Derived.Test.YtkcjbehfhcmiaaaPm
set_option maxRecDepth 100000
namespace Go.Proofs.Ytkcjbehfhcmiaaa
namespace Hp
open Go.RowKit

structure Cm where
  depth : Int
  sg : Bool
  dx : Int
  dy : Int
  deriving DecidableEq
structure Hd where
  a : Int
  b : Int
  c : Int
  d : Int
  tw : Int
  th : Int
  cs : List Cm
structure Pt where
  x : Int
  y : Int
  deriving DecidableEq
structure Ps where
  kern : Int
  lev : Int
  col : Int
  bx : Int
  yb : Int
  prec : List Pt
  ord : Int
  lay : Int
  m0 : Bool
  m1 : Bool
  m2 : Bool
  m3 : Bool
  m4 : Bool
  dv : Bool
  sy : Bool
  fe : Bool
  steps : List Int
  dead : Int
  sh : Int

def inB (lo hi n : Int) : Bool := decide (lo ≤ n ∧ n ≤ hi)
def allB (lo hi : Int) (l : List Int) : Bool := l.all (inB lo hi)
theorem in_iff {lo hi n : Int} : inB lo hi n = true ↔ (lo ≤ n ∧ n ≤ hi) := by simp [inB]
theorem in_not {lo hi n : Int} : inB lo hi n = false ↔ (n < lo ∨ hi < n) := by simp [inB]; omega
theorem all_one (lo hi n : Int) : allB lo hi [n] = inB lo hi n := by simp [allB]
theorem all_two (lo hi n m : Int) : allB lo hi [n, m] = (inB lo hi n && inB lo hi m) := by simp [allB]

def hR (h : Hd) : Pl.R := ⟨h.a, h.b, h.c, h.d⟩
def emR (r : Pl.R) : Bool := Pl.emptyB r.x0 r.y0 r.x1 r.y1
def arR (r : Pl.R) : Int := Pl.areaI r.x0 r.y0 r.x1 r.y1
def smp (r : Pl.R) (c : Cm) : Pl.R := Pl.redR r.x0 r.y0 r.x1 r.y1 c.dx c.dy
def cmB (r : Pl.R) (c : Cm) : Bool := inB 1 16 c.depth && ((inB 1 4 c.dx && inB 1 4 c.dy) && !emR (smp r c))
/-- Are the numbers of a header before its components in range? -/
def hdB (h : Hd) : Bool := Pl.validB h.a h.b h.c h.d && (!Pl.emptyB h.a h.b h.c h.d && ((inB 1 4096 h.tw && inB 1 4096 h.th) && inB 1 4 (h.cs.length : Int)))
def sndB (h : Hd) : Bool := hdB h && h.cs.all (cmB (hR h))
def cellsI (a c w : Int) : Int := if c ≤ a then 0 else Pl.cd c w - Pl.fd a w
def manyB (h : Hd) : Bool := decide (1024 < cellsI h.a h.c h.tw * cellsI h.b h.d h.th)
def wideB (r : Pl.R) (c : Cm) : Bool := decide (1048576 < arR (smp r c))
def bigB (h : Hd) : Bool := manyB h || h.cs.any (wideB (hR h))
def headM (h : Hd) : Int := if sndB h = false then 12 else if bigB h = true then 5 else 0

def zP : Pt := ⟨0, 0⟩
def precM (p : Ps) (res : Int) : Pt :=
  if res < 0 ∨ p.lev < res then zP else if p.prec.length = 0 then ⟨12, 12⟩ else if (p.prec.length : Int) ≤ res then zP else p.prec.getD res.toNat zP
def bexM (p : Ps) (res : Int) : Pt := if 0 < res then ⟨min p.bx ((precM p res).x - 1), min p.yb ((precM p res).y - 1)⟩ else ⟨min p.bx (precM p res).x, min p.yb (precM p res).y⟩
def cntM (lev : Int) : Int := if lev < 0 ∨ 5 < lev then 0 else 3 * lev + 1
def knB (p : Ps) : Bool := inB 1 3 p.kern && (inB 0 2 p.col && inB 1 5 p.ord)
def numB (p : Ps) : Bool := inB 0 5 p.lev && ((inB 2 6 p.bx && inB 2 6 p.yb) && (inB 1 16 p.lay && (decide ((p.steps.length : Int) = cntM p.lev) && (allB 1 65536 p.steps && (inB 8 32 p.dead && inB 0 30 p.sh)))))
def ptB (k : Nat) (e : Pt) : Bool := inB (min (k : Int) 1) 12 e.x && inB (min (k : Int) 1) 12 e.y
def fitB (p : Ps) : Bool := decide (p.prec.length = 0) || (decide ((p.prec.length : Int) = p.lev + 1) && decide (∀ k, k < p.prec.length → ptB k (p.prec.getD k zP) = true))
def colB (h : Hd) (p : Ps) : Bool := decide (p.col = 0) || (decide (3 ≤ h.cs.length) && (decide (h.cs[0]? = h.cs[1]?) && decide (h.cs[1]? = h.cs[2]?)))

/-- The rectangle of a resolution, and of a subband. -/
def exB (lev res : Int) : Bool := decide (lev ≤ 5 ∧ 0 ≤ res ∧ res ≤ lev)
def resR (r : Pl.R) (lev res : Int) : Pl.R := if exB lev res = true then Pl.redR r.x0 r.y0 r.x1 r.y1 (Pl.pw (lev - res)) (Pl.pw (lev - res)) else ⟨0, 0, 0, 0⟩
def idxL (lev res : Int) : List Int := if exB lev res = false then [] else if res = 0 then [0] else [3 * res - 2, 3 * res - 1, 3 * res]
def okI (idx lev : Int) : Bool := decide (0 ≤ idx ∧ idx < cntM lev)
/-- The resolution to which a subband belongs. -/
def rsI (idx : Int) : Int := (idx + 2) / 3
def lvI (idx lev : Int) : Int := if okI idx lev = true then (if idx = 0 then lev else lev - rsI idx + 1) else 0
def orI (idx lev : Int) : Int := if okI idx lev = true then (if idx = 0 then 0 else idx - 3 * rsI idx + 3) else 0
def hfI (a : Int) (b : Bool) : Int := if b then a / 2 else (a + 1) / 2
def bdR (r : Pl.R) (o : Int) : Pl.R := if Pl.validB r.x0 r.y0 r.x1 r.y1 = true then ⟨hfI r.x0 (decide (o = 1 ∨ o = 3)), hfI r.y0 (decide (o = 2 ∨ o = 3)), hfI r.x1 (decide (o = 1 ∨ o = 3)), hfI r.y1 (decide (o = 2 ∨ o = 3))⟩ else ⟨0, 0, 0, 0⟩
def banR (r : Pl.R) (lev idx : Int) : Pl.R := if okI idx lev = false then ⟨0, 0, 0, 0⟩ else if idx = 0 then resR r lev 0 else bdR (resR r lev (rsI idx)) (orI idx lev)

/-- The tiles, and the columns and rows of them. -/
def tl (h : Hd) : List Pl.R := Pl.cellsL h.a h.b h.c h.d h.tw h.th
def nc (h : Hd) : Nat := Pl.nX h.a h.c h.tw
def nr (h : Hd) : Nat := Pl.nX h.b h.d h.th
def tlN (h : Hd) (t : Nat) : Pl.R := (tl h).getD t ⟨0, 0, 0, 0⟩
def xsL (h : Hd) (f : Pl.R → Pl.R) (e : Int) : List Int := (List.range (nc h)).map fun i => cellsI (f (tlN h i)).x0 (f (tlN h i)).x1 (Pl.pw e)
def ysL (h : Hd) (f : Pl.R → Pl.R) (e : Int) : List Int := (List.range (nr h)).map fun j => cellsI (f (tlN h (j * nc h))).y0 (f (tlN h (j * nc h))).y1 (Pl.pw e)
def mxL : List Int → Int
  | [] => 0
  | x :: l => l.foldl max x
def mostI (h : Hd) (f : Pl.R → Pl.R) (e : Pt) : Int := mxL (xsL h f e.x) * mxL (ysL h f e.y)
/-- The precincts of a component's resolution in a tile, and the code blocks of a subband at most. -/
def fRes (p : Ps) (res : Int) (c : Cm) : Pl.R → Pl.R := fun t => resR (smp t c) p.lev res
def fBan (p : Ps) (idx : Int) (c : Cm) : Pl.R → Pl.R := fun t => banR (smp t c) p.lev idx
def cellN (h : Hd) (f : Pl.R → Pl.R) (e : Pt) (t : Nat) : Int := (xsL h f e.x).getD (t % nc h) 0 * (ysL h f e.y).getD (t / nc h) 0
/-- What is added to each tile's number. -/
def addL (xs ys : List Int) (n : Nat) (l : List Int) : List Int := (List.range l.length).map fun t => l.getD t 0 + xs.getD (t % n) 0 * ys.getD (t / n) 0
def resM (h : Hd) (p : Ps) (c : Cm) (l : List Int) (res : Nat) : List Int := addL (xsL h (fRes p res c) (precM p res).x) (ysL h (fRes p res c) (precM p res).y) (nc h) l
def bigBand (h : Hd) (p : Ps) (c : Cm) (idx : Int) : Bool := decide (65536 < mostI h (fBan p idx c) (bexM p (rsI idx)))
def bigRes (h : Hd) (p : Ps) (c : Cm) (res : Nat) : Bool := (idxL p.lev res).any fun idx => decide (65536 < mostI h (fBan p idx c) (bexM p res))
def comM (h : Hd) (p : Ps) (l : List Int) (c : Cm) : List Int := (List.range (p.lev + 1).toNat).foldl (resM h p c) l
def totM (h : Hd) (p : Ps) : List Int := h.cs.foldl (comM h p) (List.replicate (tl h).length 0)
def anyBig (h : Hd) (p : Ps) : Bool := h.cs.any fun c => (List.range (p.lev + 1).toNat).any fun res => bigRes h p c res
def crwB (h : Hd) (p : Ps) : Bool := anyBig h p || decide (65536 < mxL (totM h p) * p.lay)
def chkM (h : Hd) (p : Ps) : Int :=
  if headM h ≠ 0 then headM h else if knB p = false then 3 else if (numB p && (fitB p && colB h p)) = false then 13 else if crwB h p = true then 5 else 0
end Hp
end Go.Proofs.Ytkcjbehfhcmiaaa
