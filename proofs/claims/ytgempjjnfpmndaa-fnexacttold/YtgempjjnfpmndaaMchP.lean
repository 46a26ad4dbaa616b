/-
  Machines in memory (chapter 17): what their rows hold.
-/
import Derived.Test.YtgempjjnfpmndaaUntP
import Derived.Test.YtgempjjnfpmndaaHelpL
namespace Go.Proofs.Ytgempjjnfpmndaa
open Go.ChangeShapes Go.WideShapes Go.ChangeAt Go.RowKit
set_option linter.unusedSimpArgs false
set_option linter.unusedVariables false

/-- What a machine holds. -/
structure Mch where
  cs : List Cod
  ts : List ByteArray
  zs : List Int
  ph : Int
  gs : List Int
  bs : List Int
  at' : Int
  fs : List Stp
  ks : List Int
  ls : List ByteArray
  ov : Bool
  cd : Int
/-- Where its rows lie. -/
structure MchH where
  ca : Option Addr
  cc : Nat
  ta : Option Addr
  tc : Nat
  sa : Option Addr
  sc : Nat
  ga : Option Addr
  gc : Nat
  ba : Option Addr
  bc : Nat
  fa : Option Addr
  fc : Nat
  ka : Option Addr
  kc : Nat
  la : Option Addr
  lc : Nat
@[reducible] def mchC (h : MchH) (m : Mch) : Array Value := #[.slice h.ca m.cs.length h.cc, .slice h.ta m.ts.length h.tc, .slice h.sa m.zs.length h.sc, .int .i64 m.ph, .slice h.ga m.gs.length h.gc, .slice h.ba m.bs.length h.bc, .int .i64 m.at', .slice h.fa m.fs.length h.fc, .slice h.ka m.ks.length h.kc, .slice h.la m.ls.length h.lc, .bool m.ov, .int .i64 m.cd]
theorem Cells.m0 {W : World} {B : Nat} {t : TypeId} {h : MchH} {m : Mch} (x : Cells W B t (mchC h m)) : W.cell? ⟨B, 0, none⟩ = some (.slice h.ca m.cs.length h.cc) := x.cell 0
theorem Cells.m1 {W : World} {B : Nat} {t : TypeId} {h : MchH} {m : Mch} (x : Cells W B t (mchC h m)) : W.cell? ⟨B, 1, none⟩ = some (.slice h.ta m.ts.length h.tc) := x.cell 1
theorem Cells.m2 {W : World} {B : Nat} {t : TypeId} {h : MchH} {m : Mch} (x : Cells W B t (mchC h m)) : W.cell? ⟨B, 2, none⟩ = some (.slice h.sa m.zs.length h.sc) := x.cell 2
theorem Cells.m3 {W : World} {B : Nat} {t : TypeId} {h : MchH} {m : Mch} (x : Cells W B t (mchC h m)) : W.cell? ⟨B, 3, none⟩ = some (.int .i64 m.ph) := x.cell 3
theorem Cells.m4 {W : World} {B : Nat} {t : TypeId} {h : MchH} {m : Mch} (x : Cells W B t (mchC h m)) : W.cell? ⟨B, 4, none⟩ = some (.slice h.ga m.gs.length h.gc) := x.cell 4
theorem Cells.m5 {W : World} {B : Nat} {t : TypeId} {h : MchH} {m : Mch} (x : Cells W B t (mchC h m)) : W.cell? ⟨B, 5, none⟩ = some (.slice h.ba m.bs.length h.bc) := x.cell 5
theorem Cells.m6 {W : World} {B : Nat} {t : TypeId} {h : MchH} {m : Mch} (x : Cells W B t (mchC h m)) : W.cell? ⟨B, 6, none⟩ = some (.int .i64 m.at') := x.cell 6
theorem Cells.m7 {W : World} {B : Nat} {t : TypeId} {h : MchH} {m : Mch} (x : Cells W B t (mchC h m)) : W.cell? ⟨B, 7, none⟩ = some (.slice h.fa m.fs.length h.fc) := x.cell 7
theorem Cells.m8 {W : World} {B : Nat} {t : TypeId} {h : MchH} {m : Mch} (x : Cells W B t (mchC h m)) : W.cell? ⟨B, 8, none⟩ = some (.slice h.ka m.ks.length h.kc) := x.cell 8
theorem Cells.m9 {W : World} {B : Nat} {t : TypeId} {h : MchH} {m : Mch} (x : Cells W B t (mchC h m)) : W.cell? ⟨B, 9, none⟩ = some (.slice h.la m.ls.length h.lc) := x.cell 9
theorem Cells.m10 {W : World} {B : Nat} {t : TypeId} {h : MchH} {m : Mch} (x : Cells W B t (mchC h m)) : W.cell? ⟨B, 10, none⟩ = some (.bool m.ov) := x.cell 10
theorem Cells.m11 {W : World} {B : Nat} {t : TypeId} {h : MchH} {m : Mch} (x : Cells W B t (mchC h m)) : W.cell? ⟨B, 11, none⟩ = some (.int .i64 m.cd) := x.cell 11
/-- Its rows are as told. -/
structure MchA (W : World) (h : MchH) (m : Mch) : Prop where
  c : CodsA W h.ca m.cs
  t : StA W h.ta m.ts
  z : Ints W h.sa m.zs
  g : Ints W h.ga m.gs
  b : Ints W h.ba m.bs
  f : StpsA W h.fa m.fs
  k : Ints W h.ka m.ks
  l : StA W h.la m.ls
theorem MchA.kept {W W' : World} {h : MchH} {m : Mch} (x : MchA W h m) (hk : Kept W W') : MchA W' h m :=
  ⟨x.c.kept hk, x.t.kept hk, x.z.kept hk, x.g.kept hk, x.b.kept hk, x.f.kept hk, x.k.kept hk, x.l.kept hk⟩
structure MchFit (m : Mch) : Prop where
  c : FitC m.cs
  t : FitT m.ts
  z : m.zs.length ≤ maxLen
  g : m.gs.length ≤ maxLen
  b : m.bs.length ≤ maxLen
  f : m.fs.length ≤ maxLen
  k : m.ks.length ≤ maxLen
  l : FitT m.ls
/-- It is no greater than the laws ask. -/
structure MchLe (m : Mch) : Prop where
  u : blkC m.cs + blkT m.ts ≤ 1048576
  z : m.zs.length ≤ 1048576
  g : m.gs.length ≤ 1048576
  b : m.bs.length ≤ 1048576
  f : m.fs.length ≤ 1048576
  k : m.ks.length ≤ 1048576
  l : blkT m.ls ≤ 1048576
  kf : m.ks.length + m.fs.length ≤ 1048576
theorem MchLe.c {m : Mch} (h : MchLe m) : m.cs.length ≤ 1048576 := by have := h.u; unfold blkC at this; omega
theorem MchLe.i {m : Mch} (h : MchLe m) : ∀ c ∈ m.cs, c.ss.length ≤ 1048576 := fun c hc => by have := sumC_mem hc; have := h.u; unfold blkC at this; omega
theorem MchLe.t {m : Mch} (h : MchLe m) : m.ts.length ≤ 1048576 := by have := h.u; unfold blkT at this; omega
theorem MchLe.l' {m : Mch} (h : MchLe m) : m.ls.length ≤ 1048576 := by have := h.l; unfold blkT at this; omega
end Go.Proofs.Ytgempjjnfpmndaa
