/- ST -/
import Derived.Test.YtinfkoiifemjmaaGreatDoorS11
import Derived.Test.YtinfkoiifemjmaaGreatDoorS07
import Derived.Deep.RegionWith
import Derived.Deep.Cut
namespace Go.Proofs.YtinfkoiifemjmaaGreatDoor
open Go.RowKit
set_option linter.unusedVariables false

/-- what is at hand as it begins -/
structure Tm (w : World) (g : Nat) (v0 v1 v2 v3 vn : Value) (N B A O n : Int) (e : Bool) : Prop where
  R : Rch w g v0 v1 v2 v3 e
  a0 : ArgA g w v0 N 100
  a1 : ArgA g w v1 B 100
  a2 : ArgA g w v2 A 100
  a3 : ArgA g w v3 O 100
  hn : Arg w vn n 100
  fN : N * n < Nt.pw 100
  fB : B * n < Nt.pw 100
  fA : A * n < Nt.pw 100
/-- behind the first, the second, the third product -/
structure Tm1 (w w2 : World) (x : Value) (N n : Int) : Prop where
  K : Below w.heap.size w w2
  hx : Num w.heap.size w2 x (N * n) 100
structure Tm2 (w w2 : World) (x y : Value) (N B n : Int) : Prop where
  K : Below w.heap.size w w2
  hx : Num w.heap.size w2 x (N * n) 100
  hy : Num w.heap.size w2 y (B * n) 100
structure Tm3 (w w2 : World) (x y z : Value) (N B A n : Int) : Prop where
  K : Below w.heap.size w w2
  hx : Num w.heap.size w2 x (N * n) 100
  hy : Num w.heap.size w2 y (B * n) 100
  hz : Num w.heap.size w2 z (A * n) 100
theorem Tm.m0 {w w1 : World} {g : Nat} {v0 v1 v2 v3 vn : Value} {N B A O n : Int} {e : Bool} (h : Tm w g v0 v1 v2 v3 vn N B A O n e) (K : Below w.heap.size w w1) :
    Calls Tryz.prog 74 #[v0, vn] w1 fun r w2 => ∃ xa xl xc, r = .returned (.slice xa xl xc) ∧ w2.cell? ⟨g, 1, none⟩ = some v1 ∧ w2.cell? ⟨g, 2, none⟩ = some v2 ∧ Tm1 w w2 (.slice xa xl xc) N n := by
  refine (mul_any (h.a0.arg.below K) (h.hn.below K) (by omega) (by omega)).mono ?_
  rintro r w2 ⟨x, rfl, hx, hb⟩
  obtain ⟨xa, xl, xc, rfl⟩ := hx.slice
  have K2 := below_trans K hb
  exact ⟨xa, xl, xc, rfl, (h.R.keeps K2).c1, (h.R.keeps K2).c2, K2, (hx.fit h.fN).since K.size⟩
theorem Tm.m1 {w w1 : World} {g : Nat} {v0 v1 v2 v3 vn x : Value} {N B A O n : Int} {e : Bool} (h : Tm w g v0 v1 v2 v3 vn N B A O n e) (p : Tm1 w w1 x N n) :
    Calls Tryz.prog 74 #[v1, vn] w1 fun r w2 => ∃ xa xl xc, r = .returned (.slice xa xl xc) ∧ w2.cell? ⟨g, 2, none⟩ = some v2 ∧ Tm2 w w2 x (.slice xa xl xc) N B n := by
  refine (mul_any (h.a1.arg.below p.K) (h.hn.below p.K) (by omega) (by omega)).mono ?_
  rintro r w2 ⟨y, rfl, hy, hb⟩
  obtain ⟨xa, xl, xc, rfl⟩ := hy.slice
  have K2 := below_trans p.K hb
  exact ⟨xa, xl, xc, rfl, (h.R.keeps K2).c2, K2, p.hx.below hb, (hy.fit h.fB).since p.K.size⟩
theorem Tm.m2 {w w1 : World} {g : Nat} {v0 v1 v2 v3 vn x y : Value} {N B A O n : Int} {e : Bool} (h : Tm w g v0 v1 v2 v3 vn N B A O n e) (p : Tm2 w w1 x y N B n) :
    Calls Tryz.prog 74 #[v2, vn] w1 fun r w2 => ∃ xa xl xc, r = .returned (.slice xa xl xc) ∧ w2.cell? ⟨g, 0, none⟩ = some v0 ∧ w2.cell? ⟨g, 1, none⟩ = some v1 ∧ w2.cell? ⟨g, 2, none⟩ = some v2 ∧ (∀ i, w2.frozen? ⟨g, i, none⟩ = false) ∧ Tm3 w w2 x y (.slice xa xl xc) N B A n := by
  refine (mul_any (h.a2.arg.below p.K) (h.hn.below p.K) (by omega) (by omega)).mono ?_
  rintro r w2 ⟨z, rfl, hz, hb⟩
  obtain ⟨xa, xl, xc, rfl⟩ := hz.slice
  have K2 := below_trans p.K hb
  have R := h.R.keeps K2
  exact ⟨xa, xl, xc, rfl, R.c0, R.c1, R.c2, R.frozen, K2, p.hx.below hb, p.hy.below hb, (hz.fit h.fA).since p.K.size⟩
theorem times_end {w w3 : World} {g : Nat} {v0 v1 v2 v3 vn x y z : Value} {N B A O n : Int} {e : Bool} (h : Tm w g v0 v1 v2 v3 vn N B A O n e) (p : Tm3 w w3 x y z N B A n) :
    Rf w.heap.size (((w3.setCell ⟨g, 0, none⟩ x).setCell ⟨g, 1, none⟩ y).setCell ⟨g, 2, none⟩ z) g v3 (N * n) (B * n) (A * n) e ∧ Only g w (((w3.setCell ⟨g, 0, none⟩ x).setCell ⟨g, 1, none⟩ y).setCell ⟨g, 2, none⟩ z) := by
  have o3 : Only g w3 (((w3.setCell ⟨g, 0, none⟩ x).setCell ⟨g, 1, none⟩ y).setCell ⟨g, 2, none⟩ z) := (((Only.refl g w3).set 0 x).set 1 y).set 2 z
  have lt := h.R.lt
  exact ⟨⟨x, y, z, (((h.R.keeps p.K).set0 x).set1 y).set2 z, p.hx.only o3 lt, p.hy.only o3 lt, p.hz.only o3 lt⟩, (below_only p.K).trans o3⟩

set_option maxRecDepth 100000 in
set_option maxHeartbeats 8000000 in
theorem rtimes_any {w : World} {g : Nat} {v3 vn : Value} {N B A O n : Int} {e : Bool} (h : Rc w g v3 N B A O e) (hn : Arg w vn n 100) (fN : N * n < Nt.pw 100) (fB : B * n < Nt.pw 100) (fA : A * n < Nt.pw 100) :
    Calls Tryz.prog 73 #[.pointer (some ⟨g, 0, none⟩), vn] w fun r w' => r = .returned (.tuple #[]) ∧ Rf w.heap.size w' g v3 (N * n) (B * n) (A * n) e ∧ Only g w w' := by
  obtain ⟨v0, v1, v2, R, a0, a1, a2, a3⟩ := h
  have Hm := hide (show Tm w g v0 v1 v2 v3 vn N B A O n e from ⟨R, a0, a1, a2, a3, hn, fN, fB, fA⟩)
  clear R a0 a1 a2 a3 hn fN fB fA
  go_enter Tryz.func73, Tryz.ntmps73
  go_upto_region 0 with fail
  have c0 := Hm.out.R.drew.c0
  have c1 := Hm.out.R.drew.c1
  have c2 := Hm.out.R.drew.c2
  have P := hide ((Below.refl w.heap.size w).drew)
  go_region_with
    (first
      | (go_at_call 74; (with_reducible refine (Tm.m0 Hm.out P.out).mono ?_); rintro r w2 ⟨xa, xl, xc, rfl, q1, q2, q3⟩; clear P c0 c1 c2; have c1 := q1; have c2 := q2; clear q1 q2; have P := hide q3; clear q3)
      | (go_at_call 74; (with_reducible refine (Tm.m1 Hm.out P.out).mono ?_); rintro r w3 ⟨ya, yl, yc, rfl, q2, q3⟩; clear P c1 c2; have c2 := q2; clear q2; have P := hide q3; clear q3)
      | (go_at_call 74; (with_reducible refine (Tm.m2 Hm.out P.out).mono ?_); rintro r w4 ⟨za, zl, zc, rfl, d0, d1, d2, fz, q3⟩; clear P c2; have P := hide q3; clear q3))
  all_goals go_end0
  all_goals exact ⟨rfl, times_end Hm.out P.out⟩

end Go.Proofs.YtinfkoiifemjmaaGreatDoor
