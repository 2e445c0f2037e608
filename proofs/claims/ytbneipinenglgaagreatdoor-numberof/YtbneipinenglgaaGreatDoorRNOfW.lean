/- NumberOf: the walk (mk_nofw.py) -/
import Derived.Test.YtbneipinenglgaaGreatDoorR21
import Derived.Test.YtbneipinenglgaaGreatDoorR12
namespace Go.Proofs.YtbneipinenglgaaGreatDoor
open Go.RowKit
set_option linter.unusedVariables false

theorem nrd_fok {w : World} {v : Value} {k : Nat} {z : NZ} (h : NRd w v k z) : ∀ b, z = .f b → FOk b := by
  rintro b rfl
  exact h.2

set_option maxHeartbeats 16000000 in
set_option maxRecDepth 20000 in
theorem nof_walk {w : World} (L : Lays w) (T : Brn w) (U : Uss w) {x : Int} (x0 : 0 ≤ x) (x1 : x < 18446744073709551616) {gy : Bool} {my : Value} {ys : List Int} (hy : Reads .u32 w my ys) (ho : Nt.Ok ys) (hl : ys.length ≤ 70368744177664) : Calls Tryz.prog 3 #[.int .u64 x, .agg #[.bool gy, my]] w fun e' w' => e' = .returned (.bool true) ∧ Below w.heap.size w w' := by
  have HL := hide L
  have HT := hide T
  have HU := hide U
  have HY := hide hy
  have HO := hide ho
  obtain ⟨oy, cy, rfl, -⟩ := hy
  obtain ⟨ly, hly⟩ : ∃ ly, ys.length = ly := ⟨_, rfl⟩
  have HLY := hide hly
  rw [hly] at HY hl ⊢
  clear L T U ho hly
  go_enter Tryz.func3, Tryz.ntmps3
  go_upto_region 1 with fail
  have K0 := bel_new w (.cells #[.bool gy, .slice oy ly cy] 26)
  have C0 := cell2_new w (.bool gy) (.slice oy ly cy) 26
  generalize w.alloc (.cells #[.bool gy, .slice oy ly cy] 26) = w0 at *
  have d0 := C0.c0
  have d1 := C0.c1
  have KS := bel_new w0 (.cells #[.slice oy ly cy] 24)
  have cS : (w0.alloc (.cells #[.slice oy ly cy] 24)).cell? ⟨w0.heap.size, 0, none⟩ = some (.slice oy ly cy) := by rw [World.cell?_alloc_at _ _ _ _ rfl]; rfl
  have HC1 := hide (C0.below KS)
  have HK1 := hide (below_trans K0 KS)
  have HCS := hide cS
  clear K0 KS C0 cS
  go_wp2_with fail
  generalize w0.alloc (.cells #[.slice oy ly cy] 24) = w1 at *
  with_reducible refine (beyondnat_one HCS.out (by omega)).mono ?_
  rintro e w1' ⟨rfl, rfl⟩
  clear HCS d0 d1
  by_cases big : 1048576 < 1 + ly
  · rw [decide_eq_true big]
    clear big
    go_wp2
    go_ret
    exact ⟨rfl, HK1.out⟩
  rw [decide_eq_false big]
  have e32 : IntKind.u32.wrap x = x % 4294967296 := by simp only [IntKind.wrap, IntKind.signed, IntKind.bits]; simp
  have e16 : IntKind.u16.wrap x = x % 65536 := by simp only [IntKind.wrap, IntKind.signed, IntKind.bits]; simp
  have a0 : 0 ≤ x % 4294967296 := Int.emod_nonneg _ (by decide)
  have a1 : x % 4294967296 < 4294967296 := Int.emod_lt_of_pos _ (by decide)
  have c0 : 0 ≤ x % 65536 := Int.emod_nonneg _ (by decide)
  have c1 : x % 65536 < 65536 := Int.emod_lt_of_pos _ (by decide)
  go_wp2_with fail
  with_reducible refine (nof_64 (HL.out.below HK1.out) (HT.out.below HK1.out) x x0 x1).mono ?_
  rintro e w2 ⟨va, za, rfl, hNa, hza, K2⟩
  have HZa := hide hza
  have HNa := hide hNa
  have HK2 := hide (below_trans HK1.out K2)
  have HC2 := hide (HC1.out.below K2)
  obtain ⟨ka, ga, oa, la, ca, ba, rfl⟩ := nrd_shape hNa
  clear hNa hza K2 HC1
  go_wp2_with fail
  with_reducible refine (nof_32 (HL.out.below HK2.out) (HT.out.below HK2.out) (x % 4294967296) a0 a1).mono ?_
  rintro e w3 ⟨vb, zb, rfl, hNb, hzb, K3⟩
  have HZb := hide hzb
  have HNb := hide hNb
  have HNa3 := hide (HNa.out.below K3)
  have HK3 := hide (below_trans HK2.out K3)
  have HC3 := hide (HC2.out.below K3)
  obtain ⟨kb, gb, ob, lb, cb, bb, rfl⟩ := nrd_shape hNb
  clear hNb hzb K3 HNa HC2
  go_wp2_with fail
  with_reducible refine (nof_16 (HL.out.below HK3.out) (HT.out.below HK3.out) (x % 65536) c0 c1).mono ?_
  rintro e w4 ⟨vc, zc, rfl, hNc, hzc, K4⟩
  have HZc := hide hzc
  have HNc4 := hide hNc
  have HNa4 := hide (HNa3.out.below K4)
  have HNb4 := hide (HNb.out.below K4)
  have HK4 := hide (below_trans HK3.out K4)
  have HC4 := hide (HC3.out.below K4)
  obtain ⟨kc, gc, oc, lc, cc, bc, rfl⟩ := nrd_shape hNc
  clear hNc hzc K4 HNa3 HNb HC3 HK1 HK2 HK3
  go_upto_region 4 with fail
  have Ba := bx8_new w4 (.int .i8 ka) (.int .u64 0) (.bool ga) (.slice oa la ca) (.int .u64 ba) (.int .i8 0) (.string ⟨#[]⟩) (.slice none 0 0) 32
  have Ka := bel_new w4 (.cells #[.int .i8 ka, .int .u64 0, .bool ga, .slice oa la ca, .int .u64 ba, .int .i8 0, .string ⟨#[]⟩, .slice none 0 0] 32)
  have sa : (w4.alloc (.cells #[.int .i8 ka, .int .u64 0, .bool ga, .slice oa la ca, .int .u64 ba, .int .i8 0, .string ⟨#[]⟩, .slice none 0 0] 32)).heap.size = w4.heap.size + 1 := by simp
  generalize w4.alloc (.cells #[.int .i8 ka, .int .u64 0, .bool ga, .slice oa la ca, .int .u64 ba, .int .i8 0, .string ⟨#[]⟩, .slice none 0 0] 32) = wa at *
  have Bb := bx8_new wa (.int .i8 kb) (.int .u64 0) (.bool gb) (.slice ob lb cb) (.int .u64 bb) (.int .i8 0) (.string ⟨#[]⟩) (.slice none 0 0) 32
  have Kb := bel_new wa (.cells #[.int .i8 kb, .int .u64 0, .bool gb, .slice ob lb cb, .int .u64 bb, .int .i8 0, .string ⟨#[]⟩, .slice none 0 0] 32)
  have sb : (wa.alloc (.cells #[.int .i8 kb, .int .u64 0, .bool gb, .slice ob lb cb, .int .u64 bb, .int .i8 0, .string ⟨#[]⟩, .slice none 0 0] 32)).heap.size = w4.heap.size + 1 + 1 := by simp [sa]
  rw [sa] at Bb
  generalize wa.alloc (.cells #[.int .i8 kb, .int .u64 0, .bool gb, .slice ob lb cb, .int .u64 bb, .int .i8 0, .string ⟨#[]⟩, .slice none 0 0] 32) = wb at *
  have Bc := bx8_new wb (.int .i8 kc) (.int .u64 0) (.bool gc) (.slice oc lc cc) (.int .u64 bc) (.int .i8 0) (.string ⟨#[]⟩) (.slice none 0 0) 32
  have Kc := bel_new wb (.cells #[.int .i8 kc, .int .u64 0, .bool gc, .slice oc lc cc, .int .u64 bc, .int .i8 0, .string ⟨#[]⟩, .slice none 0 0] 32)
  rw [sb] at Bc
  generalize wb.alloc (.cells #[.int .i8 kc, .int .u64 0, .bool gc, .slice oc lc cc, .int .u64 bc, .int .i8 0, .string ⟨#[]⟩, .slice none 0 0] 32) = w5 at *
  have K45 := below_trans (below_trans Ka Kb) Kc
  have B5a := hide ((Ba.below Kb Ba.lt).below Kc (Ba.below Kb Ba.lt).lt)
  have B5b := hide (Bb.below Kc Bb.lt)
  have B5c := hide Bc
  have HK5 := hide (below_trans HK4.out K45)
  have N5a := hide (HNa4.out.below K45)
  have N5b := hide (HNb4.out.below K45)
  have N5c := hide (HNc4.out.below K45)
  have HC5 := hide (HC4.out.below K45)
  have d0 := HC5.out.c0
  have d1 := HC5.out.c1
  clear Ba Bb Bc Ka Kb Kc sa sb K45 HNa4 HNb4 HNc4 HK4 HC4
  go_wp2_with fail
  with_reducible refine (wtwin_any (HY.out.below HK5.out) (by have := HLY.out; omega)).mono ?_
  rintro e w6 ⟨tg, rfl, hTw, K6⟩
  rw [HLY.out] at hTw ⊢
  have HTW := hide hTw
  have HK6 := hide (below_trans HK5.out K6)
  have HC6 := hide (HC5.out.below K6)
  have K56 := hide K6
  clear hTw K6 d0 d1 HC5
  go_upto_region 5 with fail
  have Ct := cell2_new w6 (.bool gy) (.slice (some ⟨tg, 0, none⟩) ly (ly + 1)) 26
  have Kt := bel_new w6 (.cells #[.bool gy, .slice (some ⟨tg, 0, none⟩) ly (ly + 1)] 26)
  have HTW7 := hide (HTW.out.below Kt)
  have HK7 := hide (below_trans HK6.out Kt)
  have HC7 := hide (HC6.out.below Kt)
  have K57 := hide (below_trans K56.out Kt)
  generalize w6.alloc (.cells #[.bool gy, .slice (some ⟨tg, 0, none⟩) ly (ly + 1)] 26) = w7 at *
  have HCT := hide Ct
  have d0 := Ct.c0
  have d1 := Ct.c1
  have hWt : WArg w7 (.agg #[.bool gy, .slice (some ⟨tg, 0, none⟩) ly (ly + 1)]) (wn gy (Nt.val ys)) ly := ⟨gy, _, Nt.val ys, rfl, ⟨ys, HTW7.out.reads, HO.out, rfl, by have := HLY.out; omega⟩, rfl⟩
  clear Ct Kt HTW HK6 HC6 K56
  go_wp2_with fail
  with_reducible refine (nofint_any hWt (by omega)).mono ?_
  rintro e w8 ⟨vd, rfl, hNd, K8⟩
  have HNd := hide hNd
  have HK8 := hide (below_trans HK7.out K8)
  have HTW8 := hide (HTW7.out.below K8)
  have HC8 := hide (HC7.out.below K8)
  have HCT8 := hide (HCT.out.below K8)
  have K58 := hide (below_trans K57.out K8)
  obtain ⟨kd, gd, od, ld, cd, bd, rfl⟩ := nrd_shape hNd
  clear hNd K8 HTW7 HC7 HCT K57 d0 d1 hWt HK7
  go_wp2_with fail
  with_reducible refine (nof_ow (HL.out.below HK8.out) (HT.out.below HK8.out) (x % 4294967296) a0 a1).mono ?_
  rintro e w9 ⟨ve, ze, rfl, hNe, hze, K9⟩
  have HZe := hide hze
  have HNe := hide hNe
  have HNd9 := hide (HNd.out.below K9)
  have HK9 := hide (below_trans HK8.out K9)
  have HTW9 := hide (HTW8.out.below K9)
  have HC9 := hide (HC8.out.below K9)
  have HCT9 := hide (HCT8.out.below K9)
  have K59 := hide (below_trans K58.out K9)
  obtain ⟨ke, ge, oe, le, ce, be, rfl⟩ := nrd_shape hNe
  clear hNe hze K9 HTW8 HC8 HCT8 K58 HNd HK8
  go_upto_region 6 with fail
  have Bd := bx8_new w9 (.int .i8 kd) (.int .u64 0) (.bool gd) (.slice od ld cd) (.int .u64 bd) (.int .i8 0) (.string ⟨#[]⟩) (.slice none 0 0) 32
  have Kd := bel_new w9 (.cells #[.int .i8 kd, .int .u64 0, .bool gd, .slice od ld cd, .int .u64 bd, .int .i8 0, .string ⟨#[]⟩, .slice none 0 0] 32)
  have sd : (w9.alloc (.cells #[.int .i8 kd, .int .u64 0, .bool gd, .slice od ld cd, .int .u64 bd, .int .i8 0, .string ⟨#[]⟩, .slice none 0 0] 32)).heap.size = w9.heap.size + 1 := by simp
  generalize w9.alloc (.cells #[.int .i8 kd, .int .u64 0, .bool gd, .slice od ld cd, .int .u64 bd, .int .i8 0, .string ⟨#[]⟩, .slice none 0 0] 32) = wd at *
  have Be := bx8_new wd (.int .i8 ke) (.int .u64 0) (.bool ge) (.slice oe le ce) (.int .u64 be) (.int .i8 0) (.string ⟨#[]⟩) (.slice none 0 0) 32
  have Ke := bel_new wd (.cells #[.int .i8 ke, .int .u64 0, .bool ge, .slice oe le ce, .int .u64 be, .int .i8 0, .string ⟨#[]⟩, .slice none 0 0] 32)
  rw [sd] at Be
  generalize wd.alloc (.cells #[.int .i8 ke, .int .u64 0, .bool ge, .slice oe le ce, .int .u64 be, .int .i8 0, .string ⟨#[]⟩, .slice none 0 0] 32) = w10 at *
  have K90 := below_trans Kd Ke
  have B10d := hide (Bd.below Ke Bd.lt)
  have B10e := hide Be
  have HK10 := hide (below_trans HK9.out K90)
  have K510 := hide (below_trans K59.out K90)
  have B10a := hide (B5a.out.below K510.out B5a.out.lt)
  have B10b := hide (B5b.out.below K510.out B5b.out.lt)
  have B10c := hide (B5c.out.below K510.out B5c.out.lt)
  have N10a := hide (N5a.out.below K510.out)
  have N10b := hide (N5b.out.below K510.out)
  have N10c := hide (N5c.out.below K510.out)
  have N10d := hide (HNd9.out.below K90)
  have N10e := hide (HNe.out.below K90)
  have HTW10 := hide (HTW9.out.below K90)
  have HC10 := hide (HC9.out.below K90)
  have HCT10 := hide (HCT9.out.below K90)
  clear Bd Be Kd Ke sd K90 K59 B5a B5b B5c N5a N5b N5c HNd9 HNe HTW9 HC9 HCT9 HK9 HK5 K510
  have HSa := hide (fun (W : World) (v' : Value) (hW : Below w10.heap.size w10 W) (hN : NRd W v' 400 za) => (show Calls Tryz.prog 16 #[.agg #[.int .i8 ka, .int .u64 0, .bool ga, .slice oa la ca, .int .u64 ba, .int .i8 0, .string ⟨#[]⟩, .slice none 0 0], v'] W fun e' w' => e' = .returned (.bool true) ∧ Below W.heap.size W w' from by
    refine (sameval_any (N10a.out.below hW) hN).mono ?_
    rintro e W' ⟨rfl, k⟩
    rw [decide_eq_true rfl]
    exact ⟨rfl, k⟩))
  have HSb := hide (fun (W : World) (v' : Value) (hW : Below w10.heap.size w10 W) (hN : NRd W v' 400 zb) => (show Calls Tryz.prog 16 #[.agg #[.int .i8 kb, .int .u64 0, .bool gb, .slice ob lb cb, .int .u64 bb, .int .i8 0, .string ⟨#[]⟩, .slice none 0 0], v'] W fun e' w' => e' = .returned (.bool true) ∧ Below W.heap.size W w' from by
    refine (sameval_any (N10b.out.below hW) hN).mono ?_
    rintro e W' ⟨rfl, k⟩
    rw [decide_eq_true rfl]
    exact ⟨rfl, k⟩))
  have HSc := hide (fun (W : World) (v' : Value) (hW : Below w10.heap.size w10 W) (hN : NRd W v' 400 zc) => (show Calls Tryz.prog 16 #[.agg #[.int .i8 kc, .int .u64 0, .bool gc, .slice oc lc cc, .int .u64 bc, .int .i8 0, .string ⟨#[]⟩, .slice none 0 0], v'] W fun e' w' => e' = .returned (.bool true) ∧ Below W.heap.size W w' from by
    refine (sameval_any (N10c.out.below hW) hN).mono ?_
    rintro e W' ⟨rfl, k⟩
    rw [decide_eq_true rfl]
    exact ⟨rfl, k⟩))
  have hze : zb = ze := HZb.out.unique (Int.emod_nonneg _ (by decide)) (by decide) HZe.out
  have HSe := hide (fun (W : World) (hW : Below w10.heap.size w10 W) => (show Calls Tryz.prog 16 #[.agg #[.int .i8 kb, .int .u64 0, .bool gb, .slice ob lb cb, .int .u64 bb, .int .i8 0, .string ⟨#[]⟩, .slice none 0 0], .agg #[.int .i8 ke, .int .u64 0, .bool ge, .slice oe le ce, .int .u64 be, .int .i8 0, .string ⟨#[]⟩, .slice none 0 0]] W fun e' w' => e' = .returned (.bool true) ∧ Below W.heap.size W w' from by
    refine (sameval_any (N10b.out.below hW) (N10e.out.below hW)).mono ?_
    rintro e W' ⟨rfl, k⟩
    rw [hze, decide_eq_true rfl]
    exact ⟨rfl, k⟩))
  have HRa := hide (fun (W : World) => rof_64 (w := W) x x0 x1 HZa.out (nrd_fok N10a.out))
  have HRb := hide (fun (W : World) => rof_32 (w := W) (x % 4294967296) a0 a1 HZb.out (nrd_fok N10b.out))
  have HRc := hide (fun (W : World) => rof_16 (w := W) (x % 65536) c0 c1 HZc.out (nrd_fok N10c.out))
  have hr32 : x.tmod 4294967296 = x % 4294967296 := Int.tmod_eq_emod_of_nonneg x0
  have hr16 : x.tmod 65536 = x % 65536 := Int.tmod_eq_emod_of_nonneg x0
  have CC : ∀ u : World, Below w10.heap.size w10 u → u.cell? ⟨w4.heap.size, 0, none⟩ = some (.int .i8 ka) ∧ u.cell? ⟨w4.heap.size, 1, none⟩ = some (.int .u64 0) ∧ u.cell? ⟨w4.heap.size, 2, none⟩ = some (.bool ga) ∧ u.cell? ⟨w4.heap.size, 3, none⟩ = some (.slice oa la ca) ∧ u.cell? ⟨w4.heap.size, 4, none⟩ = some (.int .u64 ba) ∧ u.cell? ⟨w4.heap.size, 5, none⟩ = some (.int .i8 0) ∧ u.cell? ⟨w4.heap.size, 6, none⟩ = some (.string ⟨#[]⟩) ∧ u.cell? ⟨w4.heap.size, 7, none⟩ = some (.slice none 0 0) ∧ u.cell? ⟨w4.heap.size + 1, 0, none⟩ = some (.int .i8 kb) ∧ u.cell? ⟨w4.heap.size + 1, 1, none⟩ = some (.int .u64 0) ∧ u.cell? ⟨w4.heap.size + 1, 2, none⟩ = some (.bool gb) ∧ u.cell? ⟨w4.heap.size + 1, 3, none⟩ = some (.slice ob lb cb) ∧ u.cell? ⟨w4.heap.size + 1, 4, none⟩ = some (.int .u64 bb) ∧ u.cell? ⟨w4.heap.size + 1, 5, none⟩ = some (.int .i8 0) ∧ u.cell? ⟨w4.heap.size + 1, 6, none⟩ = some (.string ⟨#[]⟩) ∧ u.cell? ⟨w4.heap.size + 1, 7, none⟩ = some (.slice none 0 0) ∧ u.cell? ⟨w4.heap.size + 1 + 1, 0, none⟩ = some (.int .i8 kc) ∧ u.cell? ⟨w4.heap.size + 1 + 1, 1, none⟩ = some (.int .u64 0) ∧ u.cell? ⟨w4.heap.size + 1 + 1, 2, none⟩ = some (.bool gc) ∧ u.cell? ⟨w4.heap.size + 1 + 1, 3, none⟩ = some (.slice oc lc cc) ∧ u.cell? ⟨w4.heap.size + 1 + 1, 4, none⟩ = some (.int .u64 bc) ∧ u.cell? ⟨w4.heap.size + 1 + 1, 5, none⟩ = some (.int .i8 0) ∧ u.cell? ⟨w4.heap.size + 1 + 1, 6, none⟩ = some (.string ⟨#[]⟩) ∧ u.cell? ⟨w4.heap.size + 1 + 1, 7, none⟩ = some (.slice none 0 0) ∧ u.cell? ⟨w9.heap.size + 1, 0, none⟩ = some (.int .i8 ke) ∧ u.cell? ⟨w9.heap.size + 1, 1, none⟩ = some (.int .u64 0) ∧ u.cell? ⟨w9.heap.size + 1, 2, none⟩ = some (.bool ge) ∧ u.cell? ⟨w9.heap.size + 1, 3, none⟩ = some (.slice oe le ce) ∧ u.cell? ⟨w9.heap.size + 1, 4, none⟩ = some (.int .u64 be) ∧ u.cell? ⟨w9.heap.size + 1, 5, none⟩ = some (.int .i8 0) ∧ u.cell? ⟨w9.heap.size + 1, 6, none⟩ = some (.string ⟨#[]⟩) ∧ u.cell? ⟨w9.heap.size + 1, 7, none⟩ = some (.slice none 0 0) := fun u hu => by
    obtain ⟨a0, a1, a2, a3, a4, a5, a6, a7⟩ := B10a.out.below hu B10a.out.lt
    obtain ⟨b0, b1, b2, b3, b4, b5, b6, b7⟩ := B10b.out.below hu B10b.out.lt
    obtain ⟨c0, c1, c2, c3, c4, c5, c6, c7⟩ := B10c.out.below hu B10c.out.lt
    obtain ⟨e0, e1, e2, e3, e4, e5, e6, e7⟩ := B10e.out.below hu B10e.out.lt
    exact ⟨a0, a1, a2, a3, a4, a5, a6, a7, b0, b1, b2, b3, b4, b5, b6, b7, c0, c1, c2, c3, c4, c5, c6, c7, e0, e1, e2, e3, e4, e5, e6, e7⟩
  have K : Below w10.heap.size w10 w10.drew := (Below.refl _ _).drew
  clear hze
  go_region_held3 (fun u => u.cell? ⟨w4.heap.size, 0, none⟩ = some (.int .i8 ka) ∧ u.cell? ⟨w4.heap.size, 1, none⟩ = some (.int .u64 0) ∧ u.cell? ⟨w4.heap.size, 2, none⟩ = some (.bool ga) ∧ u.cell? ⟨w4.heap.size, 3, none⟩ = some (.slice oa la ca) ∧ u.cell? ⟨w4.heap.size, 4, none⟩ = some (.int .u64 ba) ∧ u.cell? ⟨w4.heap.size, 5, none⟩ = some (.int .i8 0) ∧ u.cell? ⟨w4.heap.size, 6, none⟩ = some (.string ⟨#[]⟩) ∧ u.cell? ⟨w4.heap.size, 7, none⟩ = some (.slice none 0 0) ∧ u.cell? ⟨w4.heap.size + 1, 0, none⟩ = some (.int .i8 kb) ∧ u.cell? ⟨w4.heap.size + 1, 1, none⟩ = some (.int .u64 0) ∧ u.cell? ⟨w4.heap.size + 1, 2, none⟩ = some (.bool gb) ∧ u.cell? ⟨w4.heap.size + 1, 3, none⟩ = some (.slice ob lb cb) ∧ u.cell? ⟨w4.heap.size + 1, 4, none⟩ = some (.int .u64 bb) ∧ u.cell? ⟨w4.heap.size + 1, 5, none⟩ = some (.int .i8 0) ∧ u.cell? ⟨w4.heap.size + 1, 6, none⟩ = some (.string ⟨#[]⟩) ∧ u.cell? ⟨w4.heap.size + 1, 7, none⟩ = some (.slice none 0 0) ∧ u.cell? ⟨w4.heap.size + 1 + 1, 0, none⟩ = some (.int .i8 kc) ∧ u.cell? ⟨w4.heap.size + 1 + 1, 1, none⟩ = some (.int .u64 0) ∧ u.cell? ⟨w4.heap.size + 1 + 1, 2, none⟩ = some (.bool gc) ∧ u.cell? ⟨w4.heap.size + 1 + 1, 3, none⟩ = some (.slice oc lc cc) ∧ u.cell? ⟨w4.heap.size + 1 + 1, 4, none⟩ = some (.int .u64 bc) ∧ u.cell? ⟨w4.heap.size + 1 + 1, 5, none⟩ = some (.int .i8 0) ∧ u.cell? ⟨w4.heap.size + 1 + 1, 6, none⟩ = some (.string ⟨#[]⟩) ∧ u.cell? ⟨w4.heap.size + 1 + 1, 7, none⟩ = some (.slice none 0 0) ∧ u.cell? ⟨w9.heap.size + 1, 0, none⟩ = some (.int .i8 ke) ∧ u.cell? ⟨w9.heap.size + 1, 1, none⟩ = some (.int .u64 0) ∧ u.cell? ⟨w9.heap.size + 1, 2, none⟩ = some (.bool ge) ∧ u.cell? ⟨w9.heap.size + 1, 3, none⟩ = some (.slice oe le ce) ∧ u.cell? ⟨w9.heap.size + 1, 4, none⟩ = some (.int .u64 be) ∧ u.cell? ⟨w9.heap.size + 1, 5, none⟩ = some (.int .i8 0) ∧ u.cell? ⟨w9.heap.size + 1, 6, none⟩ = some (.string ⟨#[]⟩) ∧ u.cell? ⟨w9.heap.size + 1, 7, none⟩ = some (.slice none 0 0)) (first | with_reducible exact CC _ K)
    (first
      | (go_at_call 17; (with_reducible refine (HRa.out _).mono ?_); rintro e w11 ⟨v11, rfl, hN11, hb11⟩; replace K := K.trans (hb11.mono K.size))
      | (go_at_call 17; (with_reducible refine (HRb.out _).mono ?_); rintro e w13 ⟨v13, rfl, hN13, hb13⟩; replace K := K.trans (hb13.mono K.size))
      | (go_at_call 17; (with_reducible refine (HRc.out _).mono ?_); rintro e w15 ⟨v15, rfl, hN15, hb15⟩; replace K := K.trans (hb15.mono K.size))
      | (go_at_call 16; (with_reducible refine (HSa.out _ _ K hN11).mono ?_); rintro e w12 ⟨rfl, hb12⟩; replace K := K.trans (hb12.mono K.size))
      | (go_at_call 16; (with_reducible refine (HSb.out _ _ K hN13).mono ?_); rintro e w14 ⟨rfl, hb14⟩; replace K := K.trans (hb14.mono K.size))
      | (go_at_call 16; (with_reducible refine (HSc.out _ _ K hN15).mono ?_); rintro e w16 ⟨rfl, hb16⟩; replace K := K.trans (hb16.mono K.size))
      | (go_at_call 16; (with_reducible refine (HSe.out _ K).mono ?_); rintro e w17 ⟨rfl, hb17⟩; replace K := K.trans (hb17.mono K.size)))
  have HK17 := hide (HK10.out.trans (K.mono HK10.out.size))
  have HTW17 := hide (HTW10.out.below K)
  have HC17 := hide (HC10.out.below K)
  have HCT17 := hide (HCT10.out.below K)
  have B17d := hide (B10d.out.below K B10d.out.lt)
  have N17d := hide (N10d.out.below K)
  clear CC K HSa HSb HSc HSe HRa HRb HRc hr32 hr16 hb11 hb12 hb13 hb14 hb15 hb16 hb17 hN11 hN13 hN15 HTW10 HC10 HCT10 B10a B10b B10c B10d B10e N10a N10b N10c N10d N10e HZa HZb HZc HZe
  have HSd := hide (fun (W : World) (v' : Value) (hW : Below w17.heap.size w17 W) (hN : NRd W v' ly (.w (wn gy (Nt.val ys)))) => (show Calls Tryz.prog 16 #[.agg #[.int .i8 kd, .int .u64 0, .bool gd, .slice od ld cd, .int .u64 bd, .int .i8 0, .string ⟨#[]⟩, .slice none 0 0], v'] W fun e' w' => e' = .returned (.bool true) ∧ Below W.heap.size W w' from by
    refine (sameval_any (N17d.out.below hW) hN).mono ?_
    rintro e W' ⟨rfl, k⟩
    rw [decide_eq_true rfl]
    exact ⟨rfl, k⟩))
  have HRd := hide (fun (W : World) (hW : Below w17.heap.size w17 W) => rofint_any (w := W) (g0 := gy) (m0 := .slice oy ly cy) (n := wn gy (Nt.val ys)) (k := ly) ⟨gy, _, Nt.val ys, rfl, ⟨ys, HY.out.below (below_trans HK17.out hW), HO.out, rfl, by have := HLY.out; omega⟩, rfl⟩ (by omega))
  have HLd := hide (fun (W : World) (hW : Below w17.heap.size w17 W) => wleft_any (ng := gy) (HTW17.out.below hW) (HY.out.below (below_trans HK17.out hW)))
  have HVd := hide (fun (W : World) (hW : Below w17.heap.size w17 W) => nlives (HL.out.below (below_trans HK17.out hW)) (HT.out.below (below_trans HK17.out hW)) (HU.out.below (below_trans HK17.out hW)))
  have CC : ∀ u : World, Below w17.heap.size w17 u → u.cell? ⟨w9.heap.size, 0, none⟩ = some (.int .i8 kd) ∧ u.cell? ⟨w9.heap.size, 1, none⟩ = some (.int .u64 0) ∧ u.cell? ⟨w9.heap.size, 2, none⟩ = some (.bool gd) ∧ u.cell? ⟨w9.heap.size, 3, none⟩ = some (.slice od ld cd) ∧ u.cell? ⟨w9.heap.size, 4, none⟩ = some (.int .u64 bd) ∧ u.cell? ⟨w9.heap.size, 5, none⟩ = some (.int .i8 0) ∧ u.cell? ⟨w9.heap.size, 6, none⟩ = some (.string ⟨#[]⟩) ∧ u.cell? ⟨w9.heap.size, 7, none⟩ = some (.slice none 0 0) ∧ u.cell? ⟨w.heap.size, 0, none⟩ = some (.bool gy) ∧ u.cell? ⟨w.heap.size, 1, none⟩ = some (.slice oy ly cy) ∧ u.cell? ⟨w6.heap.size, 0, none⟩ = some (.bool gy) ∧ u.cell? ⟨w6.heap.size, 1, none⟩ = some (.slice (some ⟨tg, 0, none⟩) ly (ly + 1)) := fun u hu => by
    obtain ⟨d0, d1, d2, d3, d4, d5, d6, d7⟩ := B17d.out.below hu B17d.out.lt
    have y1 := HC17.out.below hu
    have t1 := HCT17.out.below hu
    exact ⟨d0, d1, d2, d3, d4, d5, d6, d7, y1.c0, y1.c1, t1.c0, t1.c1⟩
  have K : Below w17.heap.size w17 w17.drew := (Below.refl _ _).drew
  go_upto_region 8 with fail
  go_region_held3 (fun u => u.cell? ⟨w9.heap.size, 0, none⟩ = some (.int .i8 kd) ∧ u.cell? ⟨w9.heap.size, 1, none⟩ = some (.int .u64 0) ∧ u.cell? ⟨w9.heap.size, 2, none⟩ = some (.bool gd) ∧ u.cell? ⟨w9.heap.size, 3, none⟩ = some (.slice od ld cd) ∧ u.cell? ⟨w9.heap.size, 4, none⟩ = some (.int .u64 bd) ∧ u.cell? ⟨w9.heap.size, 5, none⟩ = some (.int .i8 0) ∧ u.cell? ⟨w9.heap.size, 6, none⟩ = some (.string ⟨#[]⟩) ∧ u.cell? ⟨w9.heap.size, 7, none⟩ = some (.slice none 0 0) ∧ u.cell? ⟨w.heap.size, 0, none⟩ = some (.bool gy) ∧ u.cell? ⟨w.heap.size, 1, none⟩ = some (.slice oy ly cy) ∧ u.cell? ⟨w6.heap.size, 0, none⟩ = some (.bool gy) ∧ u.cell? ⟨w6.heap.size, 1, none⟩ = some (.slice (some ⟨tg, 0, none⟩) ly (ly + 1))) (first | with_reducible exact CC _ K)
    (first
      | (go_at_call 18; (with_reducible refine (HRd.out _ K).mono ?_); rintro e w18 ⟨v18, rfl, hN18, hb18⟩; replace K := K.trans (hb18.mono K.size))
      | (go_at_call 16; (with_reducible refine (HSd.out _ _ K hN18).mono ?_); rintro e w19 ⟨rfl, hb19⟩; replace K := K.trans (hb19.mono K.size))
      | (go_at_call 19; (with_reducible refine (HLd.out _ K).mono ?_); rintro e w20 ⟨rfl, hb20⟩; replace K := K.trans (hb20.mono K.size))
      | (go_at_call 20; (with_reducible refine (HVd.out _ K).mono ?_); rintro e w21 ⟨rfl, hb21⟩; replace K := K.trans (hb21.mono K.size)))
  have KZ := hide (HK17.out.trans (K.mono HK17.out.size))
  clear CC K
  go_wp2
  go_ret
  exact ⟨rfl, KZ.out⟩

end Go.Proofs.YtbneipinenglgaaGreatDoor
