/- NumberOne: the walk (mk_none.py) -/
import Derived.Test.YtbneipinenglgabGreatDoorQ12
import Derived.Deep.MidRow
namespace Go.Proofs.YtbneipinenglgabGreatDoor
open Go.RowKit
set_option linter.unusedVariables false

set_option maxRecDepth 100000 in
/-- a great value goes into a variable, whole -/
theorem wpList_store_v {P : Program} {w : World} {ops : Array Oper} {rest : List Oper} {o : Oper} {a : Act} {Q : Exit → Act → World → Prop} (hgd : o.guard = none) (ty : TypeId) (x y : Operand) (ho : o.op = .store ty x y)
    (g : Nat) (cells old : Array Value) (hx : a.eval x = .pointer (some ⟨g, 0, none⟩)) (hy : a.eval y = .agg cells) (t : TypeId) (hg : w.heap[g]? = some (.cells old t (0, 0))) (hi : (P.info? ty).map (·.size) = some cells.size) (hold : old.size = cells.size) (h1 : cells.all (·.oneCell') = true)
    (B : Nat) (w0 : World) (hb : Below B w0 w) (hBg : B ≤ g) (h : ∀ w', w'.heap[g]? = some (.cells cells t (0, 0)) → Below B w0 w' → wpList P ops Q rest (a.put o.dst undef) w') : wpList P ops Q (o :: rest) a w := by
  refine wpList_plain hgd fun K hK => wp_store_row ty x y ho g _ hx hy t _ hg hi hold h1 (hK _ _ (h _ (setRow_heap w g _ _ t _ hg) (hb.trans ⟨rfl, rfl, rfl, by simp [World.setRow], fun k hk => setRow_other w g k _ (by omega)⟩)))
theorem bx8_range {w : World} {b : Nat} {a0 a1 a2 a3 a4 a5 a6 a7 : Value} (h : Bx8 w b a0 a1 a2 a3 a4 a5 a6 a7) : w.rangeAt b 0 [a0, a1, a2, a3, a4, a5, a6, a7] := by
  obtain ⟨h0, h1, h2, h3, h4, h5, h6, h7⟩ := h
  intro j v hv
  match j, hv with
  | 0, hv => simp at hv; subst hv; exact h0
  | 1, hv => simp at hv; subst hv; exact h1
  | 2, hv => simp at hv; subst hv; exact h2
  | 3, hv => simp at hv; subst hv; exact h3
  | 4, hv => simp at hv; subst hv; exact h4
  | 5, hv => simp at hv; subst hv; exact h5
  | 6, hv => simp at hv; subst hv; exact h6
  | 7, hv => simp at hv; subst hv; exact h7
  | j + 8, hv => simp at hv
/-- three of a kind, by their number -/
def tri3 {α : Type} (a b c : α) (i : Nat) : α := match i with | 0 => a | 1 => b | _ => c
set_option maxHeartbeats 16000000 in
set_option maxRecDepth 20000 in
theorem none_walk {w : World} (L : Lays w) (T : Brn w) (U : Uss w) {x y z : Int} (x0 : 0 ≤ x) (x1 : x < 18446744073709551616) (y0 : 0 ≤ y) (y1 : y < 4294967296) (z0 : 0 ≤ z) (z1 : z < 65536) : Calls Tryz.prog 3 #[.int .u64 x, .int .u32 y, .int .u16 z] w fun e' w' => e' = .returned (.bool true) ∧ Below w.heap.size w w' := by
  have HL := hide L
  have HT := hide T
  have HU := hide U
  clear L T U
  go_enter Tryz.func3, Tryz.ntmps3
  go_wp2_with fail
  with_reducible refine (nof_64 HL.out HT.out x x0 x1).mono ?_
  rintro e w1 ⟨va, za, rfl, hNa, hza, K1⟩
  have HNa := hide hNa
  have HZa := hide hza
  have HK1 := hide K1
  obtain ⟨ka, ga, oa, la, ca, ba, rfl⟩ := nrd_shape hNa
  clear hNa hza K1
  go_wp2_with fail
  with_reducible refine (nof_32 (HL.out.below HK1.out) (HT.out.below HK1.out) y y0 y1).mono ?_
  rintro e w2 ⟨vb, zb, rfl, hNb, hzb, K2⟩
  have HNb := hide hNb
  have HZb := hide hzb
  have HNa2 := hide (HNa.out.below K2)
  have HK2 := hide (below_trans HK1.out K2)
  obtain ⟨kb, gb, ob, lb, cb, bb, rfl⟩ := nrd_shape hNb
  clear hNb hzb K2 HNa
  go_wp2_with fail
  with_reducible refine (nof_16 (HL.out.below HK2.out) (HT.out.below HK2.out) z z0 z1).mono ?_
  rintro e w3 ⟨vc, zc, rfl, hNc, hzc, K3⟩
  have HNc := hide hNc
  have HZc := hide hzc
  have HNa3 := hide (HNa2.out.below K3)
  have HNb3 := hide (HNb.out.below K3)
  have HK3 := hide (below_trans HK2.out K3)
  obtain ⟨kc, gc, oc, lc, cc, bc, rfl⟩ := nrd_shape hNc
  clear hNc hzc K3 HNa2 HNb HK1 HK2
  go_upto_region 2 with fail
  have Ba := bx8_new w3 (.int .i8 ka) (.int .u64 0) (.bool ga) (.slice oa la ca) (.int .u64 ba) (.int .i8 0) (.string ⟨#[]⟩) (.slice none 0 0) 33
  have Ka := bel_new w3 (.cells #[.int .i8 ka, .int .u64 0, .bool ga, .slice oa la ca, .int .u64 ba, .int .i8 0, .string ⟨#[]⟩, .slice none 0 0] 33)
  have sa : (w3.alloc (.cells #[.int .i8 ka, .int .u64 0, .bool ga, .slice oa la ca, .int .u64 ba, .int .i8 0, .string ⟨#[]⟩, .slice none 0 0] 33)).heap.size = w3.heap.size + 1 := by simp
  generalize w3.alloc (.cells #[.int .i8 ka, .int .u64 0, .bool ga, .slice oa la ca, .int .u64 ba, .int .i8 0, .string ⟨#[]⟩, .slice none 0 0] 33) = wa at *
  have Bb := bx8_new wa (.int .i8 kb) (.int .u64 0) (.bool gb) (.slice ob lb cb) (.int .u64 bb) (.int .i8 0) (.string ⟨#[]⟩) (.slice none 0 0) 33
  have Kb := bel_new wa (.cells #[.int .i8 kb, .int .u64 0, .bool gb, .slice ob lb cb, .int .u64 bb, .int .i8 0, .string ⟨#[]⟩, .slice none 0 0] 33)
  have sb : (wa.alloc (.cells #[.int .i8 kb, .int .u64 0, .bool gb, .slice ob lb cb, .int .u64 bb, .int .i8 0, .string ⟨#[]⟩, .slice none 0 0] 33)).heap.size = w3.heap.size + 1 + 1 := by simp [sa]
  rw [sa] at Bb
  generalize wa.alloc (.cells #[.int .i8 kb, .int .u64 0, .bool gb, .slice ob lb cb, .int .u64 bb, .int .i8 0, .string ⟨#[]⟩, .slice none 0 0] 33) = wb at *
  have Bc := bx8_new wb (.int .i8 kc) (.int .u64 0) (.bool gc) (.slice oc lc cc) (.int .u64 bc) (.int .i8 0) (.string ⟨#[]⟩) (.slice none 0 0) 33
  have Kc := bel_new wb (.cells #[.int .i8 kc, .int .u64 0, .bool gc, .slice oc lc cc, .int .u64 bc, .int .i8 0, .string ⟨#[]⟩, .slice none 0 0] 33)
  rw [sb] at Bc
  generalize wb.alloc (.cells #[.int .i8 kc, .int .u64 0, .bool gc, .slice oc lc cc, .int .u64 bc, .int .i8 0, .string ⟨#[]⟩, .slice none 0 0] 33) = w4 at *
  have B4a := hide ((Ba.below Kb Ba.lt).below Kc (Ba.below Kb Ba.lt).lt)
  have B4b := hide (Bb.below Kc Bb.lt)
  have B4c := hide Bc
  have K34 := below_trans (below_trans Ka Kb) Kc
  have HK4 := hide (below_trans HK3.out K34)
  have N4a := hide (HNa3.out.below K34)
  have N4b := hide (HNb3.out.below K34)
  have N4c := hide (HNc.out.below K34)
  clear Ba Bb Bc Ka Kb Kc sa sb K34 HNa3 HNb3 HNc HK3
  go_wp2_with fail
  with_reducible refine (to_64_32 (HL.out.below HK4.out) (HT.out.below HK4.out) y (y % 2147483648) (decide (2147483648 ≤ y)) y0 y1 rfl rfl).mono ?_
  rintro e w5 ⟨wide, okw, rfl, wi0, wi1, hTw, K5⟩
  have HTw := hide hTw
  have HK45 := hide K5
  have HK5 := hide (below_trans HK4.out K5)
  clear hTw K5
  go_wp2_with fail
  with_reducible refine (to_64_16 (HL.out.below HK5.out) (HT.out.below HK5.out) z (z % 32768) (decide (32768 ≤ z)) z0 z1 rfl rfl).mono ?_
  rintro e w6 ⟨half, okh, rfl, ha0, ha1, hTh, K6⟩
  have HTh := hide hTh
  have HK46 := hide (below_trans HK45.out K6)
  have HK6 := hide (below_trans HK5.out K6)
  have B6a := hide (B4a.out.below HK46.out B4a.out.lt)
  have B6b := hide (B4b.out.below HK46.out B4b.out.lt)
  have B6c := hide (B4c.out.below HK46.out B4c.out.lt)
  have N6a := hide (N4a.out.below HK46.out)
  have N6b := hide (N4b.out.below HK46.out)
  have N6c := hide (N4c.out.below HK46.out)
  clear hTh K6 B4a B4b B4c N4a N4b N4c HK45 HK46 HK4 HK5
  -- the wide ones are the same values
  have HS1 := hide (fun (W : World) (v' : Value) (z' : NZ) (hW : Below w6.heap.size w6 W) (hN : NRd W v' 100 z') (hz : OfIs 9223372036854775808 4503599627370496 (-1074) 9218868437227405312 4503599627370496 (-1074) 9218868437227405312 (wide % 9223372036854775808) (decide (9223372036854775808 ≤ wide)) z') => (show Calls Tryz.prog 12 #[v', .agg #[.int .i8 kb, .int .u64 0, .bool gb, .slice ob lb cb, .int .u64 bb, .int .i8 0, .string ⟨#[]⟩, .slice none 0 0]] W fun e' w' => e' = .returned (.bool true) ∧ Below W.heap.size W w' from by
    refine (sameval_any hN (N6b.out.below hW)).mono ?_
    rintro e W' ⟨rfl, k⟩
    rw [of_wide wth64 wth32 (by decide) (by decide) (by decide) (Int.emod_nonneg _ (by decide)) HTw.out HZb.out hz, decide_eq_true rfl]
    exact ⟨rfl, k⟩))
  have HS2 := hide (fun (W : World) (v' : Value) (z' : NZ) (hW : Below w6.heap.size w6 W) (hN : NRd W v' 100 z') (hz : OfIs 9223372036854775808 4503599627370496 (-1074) 9218868437227405312 4503599627370496 (-1074) 9218868437227405312 (half % 9223372036854775808) (decide (9223372036854775808 ≤ half)) z') => (show Calls Tryz.prog 12 #[v', .agg #[.int .i8 kc, .int .u64 0, .bool gc, .slice oc lc cc, .int .u64 bc, .int .i8 0, .string ⟨#[]⟩, .slice none 0 0]] W fun e' w' => e' = .returned (.bool true) ∧ Below W.heap.size W w' from by
    refine (sameval_any hN (N6c.out.below hW)).mono ?_
    rintro e W' ⟨rfl, k⟩
    rw [of_wide wth64 wth16 (by decide) (by decide) (by decide) (Int.emod_nonneg _ (by decide)) HTh.out HZc.out hz, decide_eq_true rfl]
    exact ⟨rfl, k⟩))
  have CC : ∀ u : World, Below w6.heap.size w6 u → u.cell? ⟨w3.heap.size + 1, 0, none⟩ = some (.int .i8 kb) ∧ u.cell? ⟨w3.heap.size + 1, 1, none⟩ = some (.int .u64 0) ∧ u.cell? ⟨w3.heap.size + 1, 2, none⟩ = some (.bool gb) ∧ u.cell? ⟨w3.heap.size + 1, 3, none⟩ = some (.slice ob lb cb) ∧ u.cell? ⟨w3.heap.size + 1, 4, none⟩ = some (.int .u64 bb) ∧ u.cell? ⟨w3.heap.size + 1, 5, none⟩ = some (.int .i8 0) ∧ u.cell? ⟨w3.heap.size + 1, 6, none⟩ = some (.string ⟨#[]⟩) ∧ u.cell? ⟨w3.heap.size + 1, 7, none⟩ = some (.slice none 0 0) ∧ u.cell? ⟨w3.heap.size + 1 + 1, 0, none⟩ = some (.int .i8 kc) ∧ u.cell? ⟨w3.heap.size + 1 + 1, 1, none⟩ = some (.int .u64 0) ∧ u.cell? ⟨w3.heap.size + 1 + 1, 2, none⟩ = some (.bool gc) ∧ u.cell? ⟨w3.heap.size + 1 + 1, 3, none⟩ = some (.slice oc lc cc) ∧ u.cell? ⟨w3.heap.size + 1 + 1, 4, none⟩ = some (.int .u64 bc) ∧ u.cell? ⟨w3.heap.size + 1 + 1, 5, none⟩ = some (.int .i8 0) ∧ u.cell? ⟨w3.heap.size + 1 + 1, 6, none⟩ = some (.string ⟨#[]⟩) ∧ u.cell? ⟨w3.heap.size + 1 + 1, 7, none⟩ = some (.slice none 0 0) := fun u hu => by
    obtain ⟨p0, p1, p2, p3, p4, p5, p6, p7⟩ := B6b.out.below hu B6b.out.lt
    obtain ⟨q0, q1, q2, q3, q4, q5, q6, q7⟩ := B6c.out.below hu B6c.out.lt
    exact ⟨p0, p1, p2, p3, p4, p5, p6, p7, q0, q1, q2, q3, q4, q5, q6, q7⟩
  have K : Below w6.heap.size w6 w6.drew := (Below.refl _ _).drew
  go_upto_region 4 with fail
  go_region_held3 (fun u => u.cell? ⟨w3.heap.size + 1, 0, none⟩ = some (.int .i8 kb) ∧ u.cell? ⟨w3.heap.size + 1, 1, none⟩ = some (.int .u64 0) ∧ u.cell? ⟨w3.heap.size + 1, 2, none⟩ = some (.bool gb) ∧ u.cell? ⟨w3.heap.size + 1, 3, none⟩ = some (.slice ob lb cb) ∧ u.cell? ⟨w3.heap.size + 1, 4, none⟩ = some (.int .u64 bb) ∧ u.cell? ⟨w3.heap.size + 1, 5, none⟩ = some (.int .i8 0) ∧ u.cell? ⟨w3.heap.size + 1, 6, none⟩ = some (.string ⟨#[]⟩) ∧ u.cell? ⟨w3.heap.size + 1, 7, none⟩ = some (.slice none 0 0) ∧ u.cell? ⟨w3.heap.size + 1 + 1, 0, none⟩ = some (.int .i8 kc) ∧ u.cell? ⟨w3.heap.size + 1 + 1, 1, none⟩ = some (.int .u64 0) ∧ u.cell? ⟨w3.heap.size + 1 + 1, 2, none⟩ = some (.bool gc) ∧ u.cell? ⟨w3.heap.size + 1 + 1, 3, none⟩ = some (.slice oc lc cc) ∧ u.cell? ⟨w3.heap.size + 1 + 1, 4, none⟩ = some (.int .u64 bc) ∧ u.cell? ⟨w3.heap.size + 1 + 1, 5, none⟩ = some (.int .i8 0) ∧ u.cell? ⟨w3.heap.size + 1 + 1, 6, none⟩ = some (.string ⟨#[]⟩) ∧ u.cell? ⟨w3.heap.size + 1 + 1, 7, none⟩ = some (.slice none 0 0)) (first | with_reducible exact CC _ K)
    (first
      | (go_at_call 7; (with_reducible refine (nof_64 (HL.out.below (HK6.out.trans (K.mono HK6.out.size))) (HT.out.below (HK6.out.trans (K.mono HK6.out.size))) wide wi0 wi1).mono ?_); rintro e w7 ⟨v7, z7, rfl, hN7, hz7, hb7⟩; replace K := K.trans (hb7.mono K.size))
      | (go_at_call 7; (with_reducible refine (nof_64 (HL.out.below (HK6.out.trans (K.mono HK6.out.size))) (HT.out.below (HK6.out.trans (K.mono HK6.out.size))) half ha0 ha1).mono ?_); rintro e w9 ⟨v9, z9, rfl, hN9, hz9, hb9⟩; replace K := K.trans (hb9.mono K.size))
      | (go_at_call 12; (with_reducible refine (HS1.out _ _ _ K hN7 hz7).mono ?_); rintro e w8 ⟨rfl, hb8⟩; replace K := K.trans (hb8.mono K.size))
      | (go_at_call 12; (with_reducible refine (HS2.out _ _ _ K hN9 hz9).mono ?_); rintro e w10 ⟨rfl, hb10⟩; replace K := K.trans (hb10.mono K.size)))
  have HZ7 := hide hz7
  have HZ9 := hide hz9
  clear hz7 hz9
  have HK10 := hide (HK6.out.trans (K.mono HK6.out.size))
  have KH := hide K
  have B10a := B6a.out.below K B6a.out.lt
  have B10b := B6b.out.below K B6b.out.lt
  have B10c := B6c.out.below K B6c.out.lt
  have N10a := hide (N6a.out.below K)
  have N10b := hide (N6b.out.below K)
  have N10c := hide (N6c.out.below K)
  clear CC K HS1 HS2 B6a B6b B6c N6a N6b N6c hN7 hN9 hb7 hb8 hb9 hb10 HK6
  go_upto_region 7 with fail
  have KA := bel_new w10 (.cells #[.int .u64 x, .int .u64 wide, .int .u64 half] 41)
  have hA0 : (w10.alloc (.cells #[.int .u64 x, .int .u64 wide, .int .u64 half] 41)).heap[w10.heap.size]? = some (.cells #[.int .u64 x, .int .u64 wide, .int .u64 half] 41 (0, 0)) := World.alloc_heap_new w10 _
  have sA : (w10.alloc (.cells #[.int .u64 x, .int .u64 wide, .int .u64 half] 41)).heap.size = w10.heap.size + 1 := by simp
  generalize w10.alloc (.cells #[.int .u64 x, .int .u64 wide, .int .u64 half] 41) = w11 at *
  have HK11 := hide (below_trans HK10.out KA)
  have N11a := hide (N10a.out.below KA)
  have N11b := hide (N10b.out.below KA)
  have N11c := hide (N10c.out.below KA)
  have R11a := bx8_range (B10a.below KA B10a.lt)
  have R11b := bx8_range (B10b.below KA B10b.lt)
  have R11c := bx8_range (B10c.below KA B10c.lt)
  have HA0 := hide hA0
  have HSA := hide sA
  clear B10a B10b B10c KA N10a N10b N10c HK10 KH hA0 sA
  refine wp_region_lit ?_
  refine wpList_load_mid rfl 33 _ rfl w3.heap.size 0 rfl _ _ R11a Tryz.underlying33 rfl (by kernel_rfl) ?_
  refine wpList_load_mid rfl 33 _ rfl (w3.heap.size + 1) 0 rfl _ _ R11b Tryz.underlying33 rfl (by kernel_rfl) ?_
  refine wpList_load_mid rfl 33 _ rfl (w3.heap.size + 1 + 1) 0 rfl _ _ R11c Tryz.underlying33 rfl (by kernel_rfl) ?_
  have KB := bel_new w11 (.cells #[.int .i8 0, .int .u64 0, .bool false, .slice none 0 0, .int .u64 0, .int .i8 0, .string ⟨#[]⟩, .slice none 0 0, .int .i8 0, .int .u64 0, .bool false, .slice none 0 0, .int .u64 0, .int .i8 0, .string ⟨#[]⟩, .slice none 0 0, .int .i8 0, .int .u64 0, .bool false, .slice none 0 0, .int .u64 0, .int .i8 0, .string ⟨#[]⟩, .slice none 0 0] 42)
  iterate 6 go_step
  refine wpList_store_v rfl 42 _ _ rfl w11.heap.size #[.int .i8 ka, .int .u64 0, .bool ga, .slice oa la ca, .int .u64 ba, .int .i8 0, .string ⟨#[]⟩, .slice none 0 0, .int .i8 kb, .int .u64 0, .bool gb, .slice ob lb cb, .int .u64 bb, .int .i8 0, .string ⟨#[]⟩, .slice none 0 0, .int .i8 kc, .int .u64 0, .bool gc, .slice oc lc cc, .int .u64 bc, .int .i8 0, .string ⟨#[]⟩, .slice none 0 0] #[.int .i8 0, .int .u64 0, .bool false, .slice none 0 0, .int .u64 0, .int .i8 0, .string ⟨#[]⟩, .slice none 0 0, .int .i8 0, .int .u64 0, .bool false, .slice none 0 0, .int .u64 0, .int .i8 0, .string ⟨#[]⟩, .slice none 0 0, .int .i8 0, .int .u64 0, .bool false, .slice none 0 0, .int .u64 0, .int .i8 0, .string ⟨#[]⟩, .slice none 0 0] rfl rfl 42 (World.alloc_heap_new w11 _) (by kernel_rfl) rfl (by kernel_rfl) w11.heap.size w11 KB (Nat.le_refl _) ?_
  intro w12 hV hB12
  have sA := HSA.out
  have HA12 := hide ((hB12.block w10.heap.size (by omega)).trans HA0.out)
  have HK12 := hide (below_trans HK11.out hB12)
  have HLT := hide (show w10.heap.size < w12.heap.size ∧ w11.heap.size < w12.heap.size from ⟨by have := hB12.size; omega, (Array.getElem?_eq_some_iff.1 hV).1⟩)
  have N12 : Hid (∀ i, i < 3 → NRd w12 (.agg #[.int .i8 (tri3 ka kb kc i), .int .u64 0, .bool (tri3 ga gb gc i), .slice (tri3 oa ob oc i) (tri3 la lb lc i) (tri3 ca cb cc i), .int .u64 (tri3 ba bb bc i), .int .i8 0, .string ⟨#[]⟩, .slice none 0 0]) 100 (tri3 za zb zc i)) := hide fun i hi => by
    match i, hi with
    | 0, _ => exact N11a.out.below hB12
    | 1, _ => exact N11b.out.below hB12
    | 2, _ => exact N11c.out.below hB12
  have V12 : Hid (∀ (u : World), Below w12.heap.size w12 u → ∀ i, i < 3 → u.cell? ⟨w10.heap.size, i, none⟩ = some (.int .u64 (tri3 x wide half i)) ∧ u.rangeAt w11.heap.size (i * 8) [.int .i8 (tri3 ka kb kc i), .int .u64 0, .bool (tri3 ga gb gc i), .slice (tri3 oa ob oc i) (tri3 la lb lc i) (tri3 ca cb cc i), .int .u64 (tri3 ba bb bc i), .int .i8 0, .string ⟨#[]⟩, .slice none 0 0]) := hide fun u hu i hi => by
    have h1 := (hu.block _ HLT.out.1).trans HA12.out
    have h2 := (hu.block _ HLT.out.2).trans hV
    refine ⟨?_, fun j v hv => ?_⟩
    · match i, hi with
      | 0, _ => exact (cell_of_row _ _ 0 _ _ _ h1).trans rfl
      | 1, _ => exact (cell_of_row _ _ 1 _ _ _ h1).trans rfl
      | 2, _ => exact (cell_of_row _ _ 2 _ _ _ h1).trans rfl
    · refine (cell_of_row _ _ (i * 8 + j) _ _ _ h2).trans ?_
      match i, hi, j, hv with
      | 0, _, 0, hv => simp at hv; subst hv; rfl
      | 0, _, 1, hv => simp at hv; subst hv; rfl
      | 0, _, 2, hv => simp at hv; subst hv; rfl
      | 0, _, 3, hv => simp at hv; subst hv; rfl
      | 0, _, 4, hv => simp at hv; subst hv; rfl
      | 0, _, 5, hv => simp at hv; subst hv; rfl
      | 0, _, 6, hv => simp at hv; subst hv; rfl
      | 0, _, 7, hv => simp at hv; subst hv; rfl
      | 0, _, j + 8, hv => simp at hv
      | 1, _, 0, hv => simp at hv; subst hv; rfl
      | 1, _, 1, hv => simp at hv; subst hv; rfl
      | 1, _, 2, hv => simp at hv; subst hv; rfl
      | 1, _, 3, hv => simp at hv; subst hv; rfl
      | 1, _, 4, hv => simp at hv; subst hv; rfl
      | 1, _, 5, hv => simp at hv; subst hv; rfl
      | 1, _, 6, hv => simp at hv; subst hv; rfl
      | 1, _, 7, hv => simp at hv; subst hv; rfl
      | 1, _, j + 8, hv => simp at hv
      | 2, _, 0, hv => simp at hv; subst hv; rfl
      | 2, _, 1, hv => simp at hv; subst hv; rfl
      | 2, _, 2, hv => simp at hv; subst hv; rfl
      | 2, _, 3, hv => simp at hv; subst hv; rfl
      | 2, _, 4, hv => simp at hv; subst hv; rfl
      | 2, _, 5, hv => simp at hv; subst hv; rfl
      | 2, _, 6, hv => simp at hv; subst hv; rfl
      | 2, _, 7, hv => simp at hv; subst hv; rfl
      | 2, _, j + 8, hv => simp at hv
  have Z12 : Hid (∀ i, i < 3 → 0 ≤ tri3 x wide half i ∧ tri3 x wide half i < 18446744073709551616 ∧ OfIs 9223372036854775808 4503599627370496 (-1074) 9218868437227405312 4503599627370496 (-1074) 9218868437227405312 ((tri3 x wide half i) % 9223372036854775808) (decide (9223372036854775808 ≤ (tri3 x wide half i))) (tri3 za zb zc i)) := hide fun i hi => by
    match i, hi with
    | 0, _ => exact ⟨x0, x1, HZa.out⟩
    | 1, _ =>
      refine ⟨wi0, wi1, ?_⟩
      have hzz := HZ7.out
      rw [show tri3 za zb zc 1 = z7 from of_wide wth64 wth32 (by decide) (by decide) (by decide) (Int.emod_nonneg _ (by decide)) HTw.out HZb.out hzz]
      exact hzz
    | 2, _ =>
      refine ⟨ha0, ha1, ?_⟩
      have hzz := HZ9.out
      rw [show tri3 za zb zc 2 = z9 from of_wide wth64 wth16 (by decide) (by decide) (by decide) (Int.emod_nonneg _ (by decide)) HTh.out HZc.out hzz]
      exact hzz
  clear HZ7 HZ9 N11a N11b N11c R11a R11b R11c HA0 HA12 hV hB12 KB HZa HZb HZc HTw HTh sA HSA HK11 HLT wi0 wi1 ha0 ha1
  generalize tri3 x wide half = lv at *
  generalize tri3 za zb zc = zv at *
  generalize tri3 ka kb kc = tk at *
  generalize tri3 ga gb gc = tg at *
  generalize tri3 oa ob oc = to at *
  generalize tri3 la lb lc = tl at *
  generalize tri3 ca cb cc = tc at *
  generalize tri3 ba bb bc = tb at *
  generalize hg10 : w10.heap.size = b14 at *
  generalize hg11 : w11.heap.size = b15 at *
  clear hg10 hg11
  go_wp2
  go_loopw [16] (fun i wr => ∃ n : Nat, i = .int .i64 n ∧ n ≤ 3 ∧ Hid (Below w12.heap.size w12 wr)) (fun i wr => 3 - (intOf i).toNat)
  case atStart => exact ⟨0, rfl, by omega, hide (Below.refl _ _)⟩
  case round =>
    obtain ⟨n, rfl, hn, HB⟩ := hrel
    by_cases h3 : n < 3
    · have q : (n : Int) < 3 := by omega
      go_wp2
      go_loopw [17] (fun k ws => ∃ m : Nat, k = .int .i64 m ∧ m ≤ 3 ∧ Hid (Below w12.heap.size w12 ws)) (fun k _ => 3 - (intOf k).toNat)
      case atStart => exact ⟨0, rfl, by omega, HB⟩
      case round =>
        obtain ⟨m, rfl, hm, HB2⟩ := hrel
        by_cases h4 : m < 3
        · have q2 : (m : Int) < 3 := by omega
          go_upto_region 14 with fail
          obtain ⟨ln0, ln1, lno⟩ := Z12.out n h3
          obtain ⟨lm0, lm1, lmo⟩ := Z12.out m h4
          have HCM := hide (ncmp_of wth64 ln0 (by omega) lm0 (by omega) lno lmo)
          have HSM := hide (same_of wth64 ln0 (by omega) lm0 (by omega) lno lmo)
          clear lno lmo
          have HKW := hide (below_trans HK12.out HB2.out)
          have CC : ∀ u : World, Below wr.heap.size wr u → u.cell? ⟨b14, n, none⟩ = some (.int .u64 (lv n)) ∧ u.cell? ⟨b14, m, none⟩ = some (.int .u64 (lv m)) := fun u hu => ⟨(V12.out u (below_trans HB2.out hu) n h3).1, (V12.out u (below_trans HB2.out hu) m h4).1⟩
          have K : Below wr.heap.size wr wr.drew := (Below.refl _ _).drew
          have hn3 : n < 3 := h3
          have hm3 : m < 3 := h4
          go_region_held3 (fun u => u.cell? ⟨b14, n, none⟩ = some (.int .u64 (lv n)) ∧ u.cell? ⟨b14, m, none⟩ = some (.int .u64 (lv m))) (first | with_reducible exact CC _ K)
            (first
              | (go_at_call 13; (with_reducible refine (cmp_64 (HL.out.below (HKW.out.trans (K.mono HKW.out.size))) (lv n) (lv m) ln0 ln1 lm0 lm1).mono ?_); rintro e w13 ⟨rfl, hb13⟩; replace K := K.trans (hb13.mono K.size)))
          have HBW := hide (HB2.out.trans (K.mono HB2.out.size))
          clear K CC hb13
          obtain ⟨ck, hck⟩ : ∃ ck, cmpOk 9223372036854775808 4503599627370496 (lv n) (lv m) = ck := ⟨_, rfl⟩
          obtain ⟨cc, hcc⟩ : ∃ cc, cmpC 9223372036854775808 4503599627370496 (lv n) (lv m) = cc := ⟨_, rfl⟩
          rw [hck, hcc] at HCM HSM ⊢
          have hok : ck = true ↔ lv n % 9223372036854775808 ≤ 9218868437227405312 ∧ lv m % 9223372036854775808 ≤ 9218868437227405312 := by
            rw [← hck]; unfold cmpOk; rw [decide_eq_true_iff]; rfl
          clear hck hcc
          have HC16 := hide (fun (u : World) (hu : Below w12.heap.size w12 u) => (show Calls Tryz.prog 15 #[.agg #[.int .i8 (tk n), .int .u64 0, .bool (tg n), .slice (to n) (tl n) (tc n), .int .u64 (tb n), .int .i8 0, .string ⟨#[]⟩, .slice none 0 0], .agg #[.int .i8 (tk m), .int .u64 0, .bool (tg m), .slice (to m) (tl m) (tc m), .int .u64 (tb m), .int .i8 0, .string ⟨#[]⟩, .slice none 0 0]] u fun e' w' => e' = .returned (.tuple #[.int .i64 cc, .bool ck]) ∧ Below u.heap.size u w' from by
            have hk := below_trans HK12.out hu
            refine (ncmp_any (HL.out.below hk) (HT.out.below hk) (HU.out.below hk) ((N12.out n h3).below hu) ((N12.out m h4).below hu) (by decide) (by decide)).mono ?_
            rintro e W' ⟨rfl, k⟩
            rw [show ncmp64 (zv n) (zv m) = (cc, ck) from HCM.out]
            exact ⟨rfl, k⟩))
          have cn := (V12.out _ HBW.out n h3).1
          cases ck with
          | true =>
            obtain ⟨o1, o2⟩ := hok.1 rfl
            by_cases hz : cc = 0
            · subst hz
              have hone : decide (zv n = zv m) = true := decide_eq_true (HSM.out.2 (.inl ⟨rfl, rfl⟩))
              clear HSM HCM hok o1 o2 cn
              have HS17 := hide (fun (u : World) (hu : Below w12.heap.size w12 u) => (show Calls Tryz.prog 12 #[.agg #[.int .i8 (tk n), .int .u64 0, .bool (tg n), .slice (to n) (tl n) (tc n), .int .u64 (tb n), .int .i8 0, .string ⟨#[]⟩, .slice none 0 0], .agg #[.int .i8 (tk m), .int .u64 0, .bool (tg m), .slice (to m) (tl m) (tc m), .int .u64 (tb m), .int .i8 0, .string ⟨#[]⟩, .slice none 0 0]] u fun e' w' => e' = .returned (.bool true) ∧ Below u.heap.size u w' from by
                refine (sameval_any ((N12.out n h3).below hu) ((N12.out m h4).below hu)).mono ?_
                rintro e W' ⟨rfl, k⟩
                rw [hone]
                exact ⟨rfl, k⟩))
              have CC : ∀ u : World, Below w13.heap.size w13 u → u.cell? ⟨b15, n * 8, none⟩ = some (.int .i8 (tk n)) ∧ u.cell? ⟨b15, n * 8 + 1, none⟩ = some (.int .u64 0) ∧ u.cell? ⟨b15, n * 8 + 2, none⟩ = some (.bool (tg n)) ∧ u.cell? ⟨b15, n * 8 + 3, none⟩ = some (.slice (to n) (tl n) (tc n)) ∧ u.cell? ⟨b15, n * 8 + 4, none⟩ = some (.int .u64 (tb n)) ∧ u.cell? ⟨b15, n * 8 + 5, none⟩ = some (.int .i8 0) ∧ u.cell? ⟨b15, n * 8 + 6, none⟩ = some (.string ⟨#[]⟩) ∧ u.cell? ⟨b15, n * 8 + 7, none⟩ = some (.slice none 0 0) ∧ u.cell? ⟨b15, m * 8, none⟩ = some (.int .i8 (tk m)) ∧ u.cell? ⟨b15, m * 8 + 1, none⟩ = some (.int .u64 0) ∧ u.cell? ⟨b15, m * 8 + 2, none⟩ = some (.bool (tg m)) ∧ u.cell? ⟨b15, m * 8 + 3, none⟩ = some (.slice (to m) (tl m) (tc m)) ∧ u.cell? ⟨b15, m * 8 + 4, none⟩ = some (.int .u64 (tb m)) ∧ u.cell? ⟨b15, m * 8 + 5, none⟩ = some (.int .i8 0) ∧ u.cell? ⟨b15, m * 8 + 6, none⟩ = some (.string ⟨#[]⟩) ∧ u.cell? ⟨b15, m * 8 + 7, none⟩ = some (.slice none 0 0) := fun u hu => by
                have hu2 := below_trans HBW.out hu
                have r1 := (V12.out u hu2 n h3).2
                have r2 := (V12.out u hu2 m h4).2
                exact ⟨r1 0 _ rfl, r1 1 _ rfl, r1 2 _ rfl, r1 3 _ rfl, r1 4 _ rfl, r1 5 _ rfl, r1 6 _ rfl, r1 7 _ rfl, r2 0 _ rfl, r2 1 _ rfl, r2 2 _ rfl, r2 3 _ rfl, r2 4 _ rfl, r2 5 _ rfl, r2 6 _ rfl, r2 7 _ rfl⟩
              have K : Below w13.heap.size w13 w13.drew := (Below.refl _ _).drew
              clear hone
              go_upto_region 16 with fail
              go_region_held3 (fun u => u.cell? ⟨b15, n * 8, none⟩ = some (.int .i8 (tk n)) ∧ u.cell? ⟨b15, n * 8 + 1, none⟩ = some (.int .u64 0) ∧ u.cell? ⟨b15, n * 8 + 2, none⟩ = some (.bool (tg n)) ∧ u.cell? ⟨b15, n * 8 + 3, none⟩ = some (.slice (to n) (tl n) (tc n)) ∧ u.cell? ⟨b15, n * 8 + 4, none⟩ = some (.int .u64 (tb n)) ∧ u.cell? ⟨b15, n * 8 + 5, none⟩ = some (.int .i8 0) ∧ u.cell? ⟨b15, n * 8 + 6, none⟩ = some (.string ⟨#[]⟩) ∧ u.cell? ⟨b15, n * 8 + 7, none⟩ = some (.slice none 0 0) ∧ u.cell? ⟨b15, m * 8, none⟩ = some (.int .i8 (tk m)) ∧ u.cell? ⟨b15, m * 8 + 1, none⟩ = some (.int .u64 0) ∧ u.cell? ⟨b15, m * 8 + 2, none⟩ = some (.bool (tg m)) ∧ u.cell? ⟨b15, m * 8 + 3, none⟩ = some (.slice (to m) (tl m) (tc m)) ∧ u.cell? ⟨b15, m * 8 + 4, none⟩ = some (.int .u64 (tb m)) ∧ u.cell? ⟨b15, m * 8 + 5, none⟩ = some (.int .i8 0) ∧ u.cell? ⟨b15, m * 8 + 6, none⟩ = some (.string ⟨#[]⟩) ∧ u.cell? ⟨b15, m * 8 + 7, none⟩ = some (.slice none 0 0)) (first | with_reducible exact CC _ K)
                (first
                  | (go_at_call 15; (with_reducible refine (HC16.out _ (HBW.out.trans (K.mono HBW.out.size))).mono ?_); rintro e w15 ⟨rfl, hb15⟩; replace K := K.trans (hb15.mono K.size)))
              have HBV := hide (HBW.out.trans (K.mono HBW.out.size))
              have CD : ∀ u : World, Below w15.heap.size w15 u → u.cell? ⟨b15, n * 8, none⟩ = some (.int .i8 (tk n)) ∧ u.cell? ⟨b15, n * 8 + 1, none⟩ = some (.int .u64 0) ∧ u.cell? ⟨b15, n * 8 + 2, none⟩ = some (.bool (tg n)) ∧ u.cell? ⟨b15, n * 8 + 3, none⟩ = some (.slice (to n) (tl n) (tc n)) ∧ u.cell? ⟨b15, n * 8 + 4, none⟩ = some (.int .u64 (tb n)) ∧ u.cell? ⟨b15, n * 8 + 5, none⟩ = some (.int .i8 0) ∧ u.cell? ⟨b15, n * 8 + 6, none⟩ = some (.string ⟨#[]⟩) ∧ u.cell? ⟨b15, n * 8 + 7, none⟩ = some (.slice none 0 0) ∧ u.cell? ⟨b15, m * 8, none⟩ = some (.int .i8 (tk m)) ∧ u.cell? ⟨b15, m * 8 + 1, none⟩ = some (.int .u64 0) ∧ u.cell? ⟨b15, m * 8 + 2, none⟩ = some (.bool (tg m)) ∧ u.cell? ⟨b15, m * 8 + 3, none⟩ = some (.slice (to m) (tl m) (tc m)) ∧ u.cell? ⟨b15, m * 8 + 4, none⟩ = some (.int .u64 (tb m)) ∧ u.cell? ⟨b15, m * 8 + 5, none⟩ = some (.int .i8 0) ∧ u.cell? ⟨b15, m * 8 + 6, none⟩ = some (.string ⟨#[]⟩) ∧ u.cell? ⟨b15, m * 8 + 7, none⟩ = some (.slice none 0 0) := fun u hu => by
                have hu2 := below_trans HBV.out hu
                have r1 := (V12.out u hu2 n h3).2
                have r2 := (V12.out u hu2 m h4).2
                exact ⟨r1 0 _ rfl, r1 1 _ rfl, r1 2 _ rfl, r1 3 _ rfl, r1 4 _ rfl, r1 5 _ rfl, r1 6 _ rfl, r1 7 _ rfl, r2 0 _ rfl, r2 1 _ rfl, r2 2 _ rfl, r2 3 _ rfl, r2 4 _ rfl, r2 5 _ rfl, r2 6 _ rfl, r2 7 _ rfl⟩
              clear K CC hb15
              have K : Below w15.heap.size w15 w15.drew := (Below.refl _ _).drew
              go_upto_region 17 with fail
              go_region_held3 (fun u => u.cell? ⟨b15, n * 8, none⟩ = some (.int .i8 (tk n)) ∧ u.cell? ⟨b15, n * 8 + 1, none⟩ = some (.int .u64 0) ∧ u.cell? ⟨b15, n * 8 + 2, none⟩ = some (.bool (tg n)) ∧ u.cell? ⟨b15, n * 8 + 3, none⟩ = some (.slice (to n) (tl n) (tc n)) ∧ u.cell? ⟨b15, n * 8 + 4, none⟩ = some (.int .u64 (tb n)) ∧ u.cell? ⟨b15, n * 8 + 5, none⟩ = some (.int .i8 0) ∧ u.cell? ⟨b15, n * 8 + 6, none⟩ = some (.string ⟨#[]⟩) ∧ u.cell? ⟨b15, n * 8 + 7, none⟩ = some (.slice none 0 0) ∧ u.cell? ⟨b15, m * 8, none⟩ = some (.int .i8 (tk m)) ∧ u.cell? ⟨b15, m * 8 + 1, none⟩ = some (.int .u64 0) ∧ u.cell? ⟨b15, m * 8 + 2, none⟩ = some (.bool (tg m)) ∧ u.cell? ⟨b15, m * 8 + 3, none⟩ = some (.slice (to m) (tl m) (tc m)) ∧ u.cell? ⟨b15, m * 8 + 4, none⟩ = some (.int .u64 (tb m)) ∧ u.cell? ⟨b15, m * 8 + 5, none⟩ = some (.int .i8 0) ∧ u.cell? ⟨b15, m * 8 + 6, none⟩ = some (.string ⟨#[]⟩) ∧ u.cell? ⟨b15, m * 8 + 7, none⟩ = some (.slice none 0 0)) (first | with_reducible exact CD _ K)
                (first
                  | (go_at_call 12; (with_reducible refine (HS17.out _ (HBV.out.trans (K.mono HBV.out.size))).mono ?_); rintro e w16 ⟨rfl, hb16⟩; replace K := K.trans (hb16.mono K.size)))
              have HBU := hide (HBV.out.trans (K.mono HBV.out.size))
              clear K CD hb16 HBV HS17 HC16
              go_wp2
              go_roundw
              case rel => exact ⟨m + 1, by simp, by omega, HBU⟩
              case measure => simp [intOf]; omega
            · have hone : decide (zv n = zv m) = false := decide_eq_false (fun h => by
                rcases HSM.out.1 h with ⟨-, g⟩ | ⟨g, -⟩
                · exact hz g
                · omega)
              have hzz : (cc == 0) = false := by simp [hz]
              have hone' := hide hone
              have o1' := hide o1
              clear HSM HCM hok o2 hz hone o1
              go_wp2_with fail
              with_reducible refine (nnan_any (HL.out.below (below_trans HK12.out HBW.out)) (lv n) ln0 ln1).mono ?_
              rintro e w14 ⟨rfl, K8⟩
              rw [show decide (9218868437227405312 < lv n % 9223372036854775808) = false from decide_eq_false (by have := o1'.out; omega)]
              replace HBW := hide (below_trans HBW.out K8)
              clear K8
              have hone := hone'.out
              clear hone' o1' cn
              have HS17 := hide (fun (u : World) (hu : Below w12.heap.size w12 u) => (show Calls Tryz.prog 12 #[.agg #[.int .i8 (tk n), .int .u64 0, .bool (tg n), .slice (to n) (tl n) (tc n), .int .u64 (tb n), .int .i8 0, .string ⟨#[]⟩, .slice none 0 0], .agg #[.int .i8 (tk m), .int .u64 0, .bool (tg m), .slice (to m) (tl m) (tc m), .int .u64 (tb m), .int .i8 0, .string ⟨#[]⟩, .slice none 0 0]] u fun e' w' => e' = .returned (.bool false) ∧ Below u.heap.size u w' from by
                refine (sameval_any ((N12.out n h3).below hu) ((N12.out m h4).below hu)).mono ?_
                rintro e W' ⟨rfl, k⟩
                rw [hone]
                exact ⟨rfl, k⟩))
              have CC : ∀ u : World, Below w14.heap.size w14 u → u.cell? ⟨b15, n * 8, none⟩ = some (.int .i8 (tk n)) ∧ u.cell? ⟨b15, n * 8 + 1, none⟩ = some (.int .u64 0) ∧ u.cell? ⟨b15, n * 8 + 2, none⟩ = some (.bool (tg n)) ∧ u.cell? ⟨b15, n * 8 + 3, none⟩ = some (.slice (to n) (tl n) (tc n)) ∧ u.cell? ⟨b15, n * 8 + 4, none⟩ = some (.int .u64 (tb n)) ∧ u.cell? ⟨b15, n * 8 + 5, none⟩ = some (.int .i8 0) ∧ u.cell? ⟨b15, n * 8 + 6, none⟩ = some (.string ⟨#[]⟩) ∧ u.cell? ⟨b15, n * 8 + 7, none⟩ = some (.slice none 0 0) ∧ u.cell? ⟨b15, m * 8, none⟩ = some (.int .i8 (tk m)) ∧ u.cell? ⟨b15, m * 8 + 1, none⟩ = some (.int .u64 0) ∧ u.cell? ⟨b15, m * 8 + 2, none⟩ = some (.bool (tg m)) ∧ u.cell? ⟨b15, m * 8 + 3, none⟩ = some (.slice (to m) (tl m) (tc m)) ∧ u.cell? ⟨b15, m * 8 + 4, none⟩ = some (.int .u64 (tb m)) ∧ u.cell? ⟨b15, m * 8 + 5, none⟩ = some (.int .i8 0) ∧ u.cell? ⟨b15, m * 8 + 6, none⟩ = some (.string ⟨#[]⟩) ∧ u.cell? ⟨b15, m * 8 + 7, none⟩ = some (.slice none 0 0) := fun u hu => by
                have hu2 := below_trans HBW.out hu
                have r1 := (V12.out u hu2 n h3).2
                have r2 := (V12.out u hu2 m h4).2
                exact ⟨r1 0 _ rfl, r1 1 _ rfl, r1 2 _ rfl, r1 3 _ rfl, r1 4 _ rfl, r1 5 _ rfl, r1 6 _ rfl, r1 7 _ rfl, r2 0 _ rfl, r2 1 _ rfl, r2 2 _ rfl, r2 3 _ rfl, r2 4 _ rfl, r2 5 _ rfl, r2 6 _ rfl, r2 7 _ rfl⟩
              have K : Below w14.heap.size w14 w14.drew := (Below.refl _ _).drew
              clear hone
              go_upto_region 16 with fail
              go_region_held3 (fun u => u.cell? ⟨b15, n * 8, none⟩ = some (.int .i8 (tk n)) ∧ u.cell? ⟨b15, n * 8 + 1, none⟩ = some (.int .u64 0) ∧ u.cell? ⟨b15, n * 8 + 2, none⟩ = some (.bool (tg n)) ∧ u.cell? ⟨b15, n * 8 + 3, none⟩ = some (.slice (to n) (tl n) (tc n)) ∧ u.cell? ⟨b15, n * 8 + 4, none⟩ = some (.int .u64 (tb n)) ∧ u.cell? ⟨b15, n * 8 + 5, none⟩ = some (.int .i8 0) ∧ u.cell? ⟨b15, n * 8 + 6, none⟩ = some (.string ⟨#[]⟩) ∧ u.cell? ⟨b15, n * 8 + 7, none⟩ = some (.slice none 0 0) ∧ u.cell? ⟨b15, m * 8, none⟩ = some (.int .i8 (tk m)) ∧ u.cell? ⟨b15, m * 8 + 1, none⟩ = some (.int .u64 0) ∧ u.cell? ⟨b15, m * 8 + 2, none⟩ = some (.bool (tg m)) ∧ u.cell? ⟨b15, m * 8 + 3, none⟩ = some (.slice (to m) (tl m) (tc m)) ∧ u.cell? ⟨b15, m * 8 + 4, none⟩ = some (.int .u64 (tb m)) ∧ u.cell? ⟨b15, m * 8 + 5, none⟩ = some (.int .i8 0) ∧ u.cell? ⟨b15, m * 8 + 6, none⟩ = some (.string ⟨#[]⟩) ∧ u.cell? ⟨b15, m * 8 + 7, none⟩ = some (.slice none 0 0)) (first | with_reducible exact CC _ K)
                (first
                  | (go_at_call 15; (with_reducible refine (HC16.out _ (HBW.out.trans (K.mono HBW.out.size))).mono ?_); rintro e w15 ⟨rfl, hb15⟩; replace K := K.trans (hb15.mono K.size)))
              have HBV := hide (HBW.out.trans (K.mono HBW.out.size))
              have CD : ∀ u : World, Below w15.heap.size w15 u → u.cell? ⟨b15, n * 8, none⟩ = some (.int .i8 (tk n)) ∧ u.cell? ⟨b15, n * 8 + 1, none⟩ = some (.int .u64 0) ∧ u.cell? ⟨b15, n * 8 + 2, none⟩ = some (.bool (tg n)) ∧ u.cell? ⟨b15, n * 8 + 3, none⟩ = some (.slice (to n) (tl n) (tc n)) ∧ u.cell? ⟨b15, n * 8 + 4, none⟩ = some (.int .u64 (tb n)) ∧ u.cell? ⟨b15, n * 8 + 5, none⟩ = some (.int .i8 0) ∧ u.cell? ⟨b15, n * 8 + 6, none⟩ = some (.string ⟨#[]⟩) ∧ u.cell? ⟨b15, n * 8 + 7, none⟩ = some (.slice none 0 0) ∧ u.cell? ⟨b15, m * 8, none⟩ = some (.int .i8 (tk m)) ∧ u.cell? ⟨b15, m * 8 + 1, none⟩ = some (.int .u64 0) ∧ u.cell? ⟨b15, m * 8 + 2, none⟩ = some (.bool (tg m)) ∧ u.cell? ⟨b15, m * 8 + 3, none⟩ = some (.slice (to m) (tl m) (tc m)) ∧ u.cell? ⟨b15, m * 8 + 4, none⟩ = some (.int .u64 (tb m)) ∧ u.cell? ⟨b15, m * 8 + 5, none⟩ = some (.int .i8 0) ∧ u.cell? ⟨b15, m * 8 + 6, none⟩ = some (.string ⟨#[]⟩) ∧ u.cell? ⟨b15, m * 8 + 7, none⟩ = some (.slice none 0 0) := fun u hu => by
                have hu2 := below_trans HBV.out hu
                have r1 := (V12.out u hu2 n h3).2
                have r2 := (V12.out u hu2 m h4).2
                exact ⟨r1 0 _ rfl, r1 1 _ rfl, r1 2 _ rfl, r1 3 _ rfl, r1 4 _ rfl, r1 5 _ rfl, r1 6 _ rfl, r1 7 _ rfl, r2 0 _ rfl, r2 1 _ rfl, r2 2 _ rfl, r2 3 _ rfl, r2 4 _ rfl, r2 5 _ rfl, r2 6 _ rfl, r2 7 _ rfl⟩
              clear K CC hb15
              have K : Below w15.heap.size w15 w15.drew := (Below.refl _ _).drew
              go_upto_region 17 with fail
              go_region_held3 (fun u => u.cell? ⟨b15, n * 8, none⟩ = some (.int .i8 (tk n)) ∧ u.cell? ⟨b15, n * 8 + 1, none⟩ = some (.int .u64 0) ∧ u.cell? ⟨b15, n * 8 + 2, none⟩ = some (.bool (tg n)) ∧ u.cell? ⟨b15, n * 8 + 3, none⟩ = some (.slice (to n) (tl n) (tc n)) ∧ u.cell? ⟨b15, n * 8 + 4, none⟩ = some (.int .u64 (tb n)) ∧ u.cell? ⟨b15, n * 8 + 5, none⟩ = some (.int .i8 0) ∧ u.cell? ⟨b15, n * 8 + 6, none⟩ = some (.string ⟨#[]⟩) ∧ u.cell? ⟨b15, n * 8 + 7, none⟩ = some (.slice none 0 0) ∧ u.cell? ⟨b15, m * 8, none⟩ = some (.int .i8 (tk m)) ∧ u.cell? ⟨b15, m * 8 + 1, none⟩ = some (.int .u64 0) ∧ u.cell? ⟨b15, m * 8 + 2, none⟩ = some (.bool (tg m)) ∧ u.cell? ⟨b15, m * 8 + 3, none⟩ = some (.slice (to m) (tl m) (tc m)) ∧ u.cell? ⟨b15, m * 8 + 4, none⟩ = some (.int .u64 (tb m)) ∧ u.cell? ⟨b15, m * 8 + 5, none⟩ = some (.int .i8 0) ∧ u.cell? ⟨b15, m * 8 + 6, none⟩ = some (.string ⟨#[]⟩) ∧ u.cell? ⟨b15, m * 8 + 7, none⟩ = some (.slice none 0 0)) (first | with_reducible exact CD _ K)
                (first
                  | (go_at_call 12; (with_reducible refine (HS17.out _ (HBV.out.trans (K.mono HBV.out.size))).mono ?_); rintro e w16 ⟨rfl, hb16⟩; replace K := K.trans (hb16.mono K.size)))
              have HBU := hide (HBV.out.trans (K.mono HBV.out.size))
              clear K CD hb16 HBV HS17 HC16
              go_wp2
              go_roundw
              case rel => exact ⟨m + 1, by simp, by omega, HBU⟩
              case measure => simp [intOf]; omega
          | false =>
            by_cases hn9 : 9218868437227405312 < lv n % 9223372036854775808
            · by_cases hm9 : 9218868437227405312 < lv m % 9223372036854775808
              · have hone' := hide (show decide (zv n = zv m) = true from decide_eq_true (HSM.out.2 (.inr ⟨hn9, hm9⟩)))
                have o1' := hide hn9
                have o2' := hide hm9
                clear HSM HCM hok hn9 hm9
                go_wp2_with fail
                with_reducible refine (nnan_any (HL.out.below (below_trans HK12.out HBW.out)) (lv n) ln0 ln1).mono ?_
                rintro e w14 ⟨rfl, K8⟩
                rw [show decide (9218868437227405312 < lv n % 9223372036854775808) = true from decide_eq_true o1'.out]
                replace HBW := hide (below_trans HBW.out K8)
                clear K8
                have cm := (V12.out _ HBW.out m h4).1
                clear cn
                go_wp2_with fail
                with_reducible refine (nnan_any (HL.out.below (below_trans HK12.out HBW.out)) (lv m) lm0 lm1).mono ?_
                rintro e w17 ⟨rfl, K8⟩
                rw [show decide (9218868437227405312 < lv m % 9223372036854775808) = true from decide_eq_true o2'.out]
                replace HBW := hide (below_trans HBW.out K8)
                clear K8
                have hone := hone'.out
                clear hone' o1' o2' cm
                have HS17 := hide (fun (u : World) (hu : Below w12.heap.size w12 u) => (show Calls Tryz.prog 12 #[.agg #[.int .i8 (tk n), .int .u64 0, .bool (tg n), .slice (to n) (tl n) (tc n), .int .u64 (tb n), .int .i8 0, .string ⟨#[]⟩, .slice none 0 0], .agg #[.int .i8 (tk m), .int .u64 0, .bool (tg m), .slice (to m) (tl m) (tc m), .int .u64 (tb m), .int .i8 0, .string ⟨#[]⟩, .slice none 0 0]] u fun e' w' => e' = .returned (.bool true) ∧ Below u.heap.size u w' from by
                  refine (sameval_any ((N12.out n h3).below hu) ((N12.out m h4).below hu)).mono ?_
                  rintro e W' ⟨rfl, k⟩
                  rw [hone]
                  exact ⟨rfl, k⟩))
                have CC : ∀ u : World, Below w17.heap.size w17 u → u.cell? ⟨b15, n * 8, none⟩ = some (.int .i8 (tk n)) ∧ u.cell? ⟨b15, n * 8 + 1, none⟩ = some (.int .u64 0) ∧ u.cell? ⟨b15, n * 8 + 2, none⟩ = some (.bool (tg n)) ∧ u.cell? ⟨b15, n * 8 + 3, none⟩ = some (.slice (to n) (tl n) (tc n)) ∧ u.cell? ⟨b15, n * 8 + 4, none⟩ = some (.int .u64 (tb n)) ∧ u.cell? ⟨b15, n * 8 + 5, none⟩ = some (.int .i8 0) ∧ u.cell? ⟨b15, n * 8 + 6, none⟩ = some (.string ⟨#[]⟩) ∧ u.cell? ⟨b15, n * 8 + 7, none⟩ = some (.slice none 0 0) ∧ u.cell? ⟨b15, m * 8, none⟩ = some (.int .i8 (tk m)) ∧ u.cell? ⟨b15, m * 8 + 1, none⟩ = some (.int .u64 0) ∧ u.cell? ⟨b15, m * 8 + 2, none⟩ = some (.bool (tg m)) ∧ u.cell? ⟨b15, m * 8 + 3, none⟩ = some (.slice (to m) (tl m) (tc m)) ∧ u.cell? ⟨b15, m * 8 + 4, none⟩ = some (.int .u64 (tb m)) ∧ u.cell? ⟨b15, m * 8 + 5, none⟩ = some (.int .i8 0) ∧ u.cell? ⟨b15, m * 8 + 6, none⟩ = some (.string ⟨#[]⟩) ∧ u.cell? ⟨b15, m * 8 + 7, none⟩ = some (.slice none 0 0) := fun u hu => by
                  have hu2 := below_trans HBW.out hu
                  have r1 := (V12.out u hu2 n h3).2
                  have r2 := (V12.out u hu2 m h4).2
                  exact ⟨r1 0 _ rfl, r1 1 _ rfl, r1 2 _ rfl, r1 3 _ rfl, r1 4 _ rfl, r1 5 _ rfl, r1 6 _ rfl, r1 7 _ rfl, r2 0 _ rfl, r2 1 _ rfl, r2 2 _ rfl, r2 3 _ rfl, r2 4 _ rfl, r2 5 _ rfl, r2 6 _ rfl, r2 7 _ rfl⟩
                have K : Below w17.heap.size w17 w17.drew := (Below.refl _ _).drew
                clear hone
                go_upto_region 16 with fail
                go_region_held3 (fun u => u.cell? ⟨b15, n * 8, none⟩ = some (.int .i8 (tk n)) ∧ u.cell? ⟨b15, n * 8 + 1, none⟩ = some (.int .u64 0) ∧ u.cell? ⟨b15, n * 8 + 2, none⟩ = some (.bool (tg n)) ∧ u.cell? ⟨b15, n * 8 + 3, none⟩ = some (.slice (to n) (tl n) (tc n)) ∧ u.cell? ⟨b15, n * 8 + 4, none⟩ = some (.int .u64 (tb n)) ∧ u.cell? ⟨b15, n * 8 + 5, none⟩ = some (.int .i8 0) ∧ u.cell? ⟨b15, n * 8 + 6, none⟩ = some (.string ⟨#[]⟩) ∧ u.cell? ⟨b15, n * 8 + 7, none⟩ = some (.slice none 0 0) ∧ u.cell? ⟨b15, m * 8, none⟩ = some (.int .i8 (tk m)) ∧ u.cell? ⟨b15, m * 8 + 1, none⟩ = some (.int .u64 0) ∧ u.cell? ⟨b15, m * 8 + 2, none⟩ = some (.bool (tg m)) ∧ u.cell? ⟨b15, m * 8 + 3, none⟩ = some (.slice (to m) (tl m) (tc m)) ∧ u.cell? ⟨b15, m * 8 + 4, none⟩ = some (.int .u64 (tb m)) ∧ u.cell? ⟨b15, m * 8 + 5, none⟩ = some (.int .i8 0) ∧ u.cell? ⟨b15, m * 8 + 6, none⟩ = some (.string ⟨#[]⟩) ∧ u.cell? ⟨b15, m * 8 + 7, none⟩ = some (.slice none 0 0)) (first | with_reducible exact CC _ K)
                  (first
                    | (go_at_call 15; (with_reducible refine (HC16.out _ (HBW.out.trans (K.mono HBW.out.size))).mono ?_); rintro e w15 ⟨rfl, hb15⟩; replace K := K.trans (hb15.mono K.size)))
                have HBV := hide (HBW.out.trans (K.mono HBW.out.size))
                have CD : ∀ u : World, Below w15.heap.size w15 u → u.cell? ⟨b15, n * 8, none⟩ = some (.int .i8 (tk n)) ∧ u.cell? ⟨b15, n * 8 + 1, none⟩ = some (.int .u64 0) ∧ u.cell? ⟨b15, n * 8 + 2, none⟩ = some (.bool (tg n)) ∧ u.cell? ⟨b15, n * 8 + 3, none⟩ = some (.slice (to n) (tl n) (tc n)) ∧ u.cell? ⟨b15, n * 8 + 4, none⟩ = some (.int .u64 (tb n)) ∧ u.cell? ⟨b15, n * 8 + 5, none⟩ = some (.int .i8 0) ∧ u.cell? ⟨b15, n * 8 + 6, none⟩ = some (.string ⟨#[]⟩) ∧ u.cell? ⟨b15, n * 8 + 7, none⟩ = some (.slice none 0 0) ∧ u.cell? ⟨b15, m * 8, none⟩ = some (.int .i8 (tk m)) ∧ u.cell? ⟨b15, m * 8 + 1, none⟩ = some (.int .u64 0) ∧ u.cell? ⟨b15, m * 8 + 2, none⟩ = some (.bool (tg m)) ∧ u.cell? ⟨b15, m * 8 + 3, none⟩ = some (.slice (to m) (tl m) (tc m)) ∧ u.cell? ⟨b15, m * 8 + 4, none⟩ = some (.int .u64 (tb m)) ∧ u.cell? ⟨b15, m * 8 + 5, none⟩ = some (.int .i8 0) ∧ u.cell? ⟨b15, m * 8 + 6, none⟩ = some (.string ⟨#[]⟩) ∧ u.cell? ⟨b15, m * 8 + 7, none⟩ = some (.slice none 0 0) := fun u hu => by
                  have hu2 := below_trans HBV.out hu
                  have r1 := (V12.out u hu2 n h3).2
                  have r2 := (V12.out u hu2 m h4).2
                  exact ⟨r1 0 _ rfl, r1 1 _ rfl, r1 2 _ rfl, r1 3 _ rfl, r1 4 _ rfl, r1 5 _ rfl, r1 6 _ rfl, r1 7 _ rfl, r2 0 _ rfl, r2 1 _ rfl, r2 2 _ rfl, r2 3 _ rfl, r2 4 _ rfl, r2 5 _ rfl, r2 6 _ rfl, r2 7 _ rfl⟩
                clear K CC hb15
                have K : Below w15.heap.size w15 w15.drew := (Below.refl _ _).drew
                go_upto_region 17 with fail
                go_region_held3 (fun u => u.cell? ⟨b15, n * 8, none⟩ = some (.int .i8 (tk n)) ∧ u.cell? ⟨b15, n * 8 + 1, none⟩ = some (.int .u64 0) ∧ u.cell? ⟨b15, n * 8 + 2, none⟩ = some (.bool (tg n)) ∧ u.cell? ⟨b15, n * 8 + 3, none⟩ = some (.slice (to n) (tl n) (tc n)) ∧ u.cell? ⟨b15, n * 8 + 4, none⟩ = some (.int .u64 (tb n)) ∧ u.cell? ⟨b15, n * 8 + 5, none⟩ = some (.int .i8 0) ∧ u.cell? ⟨b15, n * 8 + 6, none⟩ = some (.string ⟨#[]⟩) ∧ u.cell? ⟨b15, n * 8 + 7, none⟩ = some (.slice none 0 0) ∧ u.cell? ⟨b15, m * 8, none⟩ = some (.int .i8 (tk m)) ∧ u.cell? ⟨b15, m * 8 + 1, none⟩ = some (.int .u64 0) ∧ u.cell? ⟨b15, m * 8 + 2, none⟩ = some (.bool (tg m)) ∧ u.cell? ⟨b15, m * 8 + 3, none⟩ = some (.slice (to m) (tl m) (tc m)) ∧ u.cell? ⟨b15, m * 8 + 4, none⟩ = some (.int .u64 (tb m)) ∧ u.cell? ⟨b15, m * 8 + 5, none⟩ = some (.int .i8 0) ∧ u.cell? ⟨b15, m * 8 + 6, none⟩ = some (.string ⟨#[]⟩) ∧ u.cell? ⟨b15, m * 8 + 7, none⟩ = some (.slice none 0 0)) (first | with_reducible exact CD _ K)
                  (first
                    | (go_at_call 12; (with_reducible refine (HS17.out _ (HBV.out.trans (K.mono HBV.out.size))).mono ?_); rintro e w16 ⟨rfl, hb16⟩; replace K := K.trans (hb16.mono K.size)))
                have HBU := hide (HBV.out.trans (K.mono HBV.out.size))
                clear K CD hb16 HBV HS17 HC16
                go_wp2
                go_roundw
                case rel => exact ⟨m + 1, by simp, by omega, HBU⟩
                case measure => simp [intOf]; omega
              · have hone' := hide (show decide (zv n = zv m) = false from decide_eq_false (fun h => by
                  rcases HSM.out.1 h with ⟨g, -⟩ | ⟨-, g⟩
                  · cases g
                  · exact hm9 g))
                have o1' := hide hn9
                have o2' := hide hm9
                clear HSM HCM hok hn9 hm9
                go_wp2_with fail
                with_reducible refine (nnan_any (HL.out.below (below_trans HK12.out HBW.out)) (lv n) ln0 ln1).mono ?_
                rintro e w14 ⟨rfl, K8⟩
                rw [show decide (9218868437227405312 < lv n % 9223372036854775808) = true from decide_eq_true o1'.out]
                replace HBW := hide (below_trans HBW.out K8)
                clear K8
                have cm := (V12.out _ HBW.out m h4).1
                clear cn
                go_wp2_with fail
                with_reducible refine (nnan_any (HL.out.below (below_trans HK12.out HBW.out)) (lv m) lm0 lm1).mono ?_
                rintro e w17 ⟨rfl, K8⟩
                rw [show decide (9218868437227405312 < lv m % 9223372036854775808) = false from decide_eq_false (by have := o2'.out; omega)]
                replace HBW := hide (below_trans HBW.out K8)
                clear K8
                have hone := hone'.out
                clear hone' o1' o2' cm
                have HS17 := hide (fun (u : World) (hu : Below w12.heap.size w12 u) => (show Calls Tryz.prog 12 #[.agg #[.int .i8 (tk n), .int .u64 0, .bool (tg n), .slice (to n) (tl n) (tc n), .int .u64 (tb n), .int .i8 0, .string ⟨#[]⟩, .slice none 0 0], .agg #[.int .i8 (tk m), .int .u64 0, .bool (tg m), .slice (to m) (tl m) (tc m), .int .u64 (tb m), .int .i8 0, .string ⟨#[]⟩, .slice none 0 0]] u fun e' w' => e' = .returned (.bool false) ∧ Below u.heap.size u w' from by
                  refine (sameval_any ((N12.out n h3).below hu) ((N12.out m h4).below hu)).mono ?_
                  rintro e W' ⟨rfl, k⟩
                  rw [hone]
                  exact ⟨rfl, k⟩))
                have CC : ∀ u : World, Below w17.heap.size w17 u → u.cell? ⟨b15, n * 8, none⟩ = some (.int .i8 (tk n)) ∧ u.cell? ⟨b15, n * 8 + 1, none⟩ = some (.int .u64 0) ∧ u.cell? ⟨b15, n * 8 + 2, none⟩ = some (.bool (tg n)) ∧ u.cell? ⟨b15, n * 8 + 3, none⟩ = some (.slice (to n) (tl n) (tc n)) ∧ u.cell? ⟨b15, n * 8 + 4, none⟩ = some (.int .u64 (tb n)) ∧ u.cell? ⟨b15, n * 8 + 5, none⟩ = some (.int .i8 0) ∧ u.cell? ⟨b15, n * 8 + 6, none⟩ = some (.string ⟨#[]⟩) ∧ u.cell? ⟨b15, n * 8 + 7, none⟩ = some (.slice none 0 0) ∧ u.cell? ⟨b15, m * 8, none⟩ = some (.int .i8 (tk m)) ∧ u.cell? ⟨b15, m * 8 + 1, none⟩ = some (.int .u64 0) ∧ u.cell? ⟨b15, m * 8 + 2, none⟩ = some (.bool (tg m)) ∧ u.cell? ⟨b15, m * 8 + 3, none⟩ = some (.slice (to m) (tl m) (tc m)) ∧ u.cell? ⟨b15, m * 8 + 4, none⟩ = some (.int .u64 (tb m)) ∧ u.cell? ⟨b15, m * 8 + 5, none⟩ = some (.int .i8 0) ∧ u.cell? ⟨b15, m * 8 + 6, none⟩ = some (.string ⟨#[]⟩) ∧ u.cell? ⟨b15, m * 8 + 7, none⟩ = some (.slice none 0 0) := fun u hu => by
                  have hu2 := below_trans HBW.out hu
                  have r1 := (V12.out u hu2 n h3).2
                  have r2 := (V12.out u hu2 m h4).2
                  exact ⟨r1 0 _ rfl, r1 1 _ rfl, r1 2 _ rfl, r1 3 _ rfl, r1 4 _ rfl, r1 5 _ rfl, r1 6 _ rfl, r1 7 _ rfl, r2 0 _ rfl, r2 1 _ rfl, r2 2 _ rfl, r2 3 _ rfl, r2 4 _ rfl, r2 5 _ rfl, r2 6 _ rfl, r2 7 _ rfl⟩
                have K : Below w17.heap.size w17 w17.drew := (Below.refl _ _).drew
                clear hone
                go_upto_region 16 with fail
                go_region_held3 (fun u => u.cell? ⟨b15, n * 8, none⟩ = some (.int .i8 (tk n)) ∧ u.cell? ⟨b15, n * 8 + 1, none⟩ = some (.int .u64 0) ∧ u.cell? ⟨b15, n * 8 + 2, none⟩ = some (.bool (tg n)) ∧ u.cell? ⟨b15, n * 8 + 3, none⟩ = some (.slice (to n) (tl n) (tc n)) ∧ u.cell? ⟨b15, n * 8 + 4, none⟩ = some (.int .u64 (tb n)) ∧ u.cell? ⟨b15, n * 8 + 5, none⟩ = some (.int .i8 0) ∧ u.cell? ⟨b15, n * 8 + 6, none⟩ = some (.string ⟨#[]⟩) ∧ u.cell? ⟨b15, n * 8 + 7, none⟩ = some (.slice none 0 0) ∧ u.cell? ⟨b15, m * 8, none⟩ = some (.int .i8 (tk m)) ∧ u.cell? ⟨b15, m * 8 + 1, none⟩ = some (.int .u64 0) ∧ u.cell? ⟨b15, m * 8 + 2, none⟩ = some (.bool (tg m)) ∧ u.cell? ⟨b15, m * 8 + 3, none⟩ = some (.slice (to m) (tl m) (tc m)) ∧ u.cell? ⟨b15, m * 8 + 4, none⟩ = some (.int .u64 (tb m)) ∧ u.cell? ⟨b15, m * 8 + 5, none⟩ = some (.int .i8 0) ∧ u.cell? ⟨b15, m * 8 + 6, none⟩ = some (.string ⟨#[]⟩) ∧ u.cell? ⟨b15, m * 8 + 7, none⟩ = some (.slice none 0 0)) (first | with_reducible exact CC _ K)
                  (first
                    | (go_at_call 15; (with_reducible refine (HC16.out _ (HBW.out.trans (K.mono HBW.out.size))).mono ?_); rintro e w15 ⟨rfl, hb15⟩; replace K := K.trans (hb15.mono K.size)))
                have HBV := hide (HBW.out.trans (K.mono HBW.out.size))
                have CD : ∀ u : World, Below w15.heap.size w15 u → u.cell? ⟨b15, n * 8, none⟩ = some (.int .i8 (tk n)) ∧ u.cell? ⟨b15, n * 8 + 1, none⟩ = some (.int .u64 0) ∧ u.cell? ⟨b15, n * 8 + 2, none⟩ = some (.bool (tg n)) ∧ u.cell? ⟨b15, n * 8 + 3, none⟩ = some (.slice (to n) (tl n) (tc n)) ∧ u.cell? ⟨b15, n * 8 + 4, none⟩ = some (.int .u64 (tb n)) ∧ u.cell? ⟨b15, n * 8 + 5, none⟩ = some (.int .i8 0) ∧ u.cell? ⟨b15, n * 8 + 6, none⟩ = some (.string ⟨#[]⟩) ∧ u.cell? ⟨b15, n * 8 + 7, none⟩ = some (.slice none 0 0) ∧ u.cell? ⟨b15, m * 8, none⟩ = some (.int .i8 (tk m)) ∧ u.cell? ⟨b15, m * 8 + 1, none⟩ = some (.int .u64 0) ∧ u.cell? ⟨b15, m * 8 + 2, none⟩ = some (.bool (tg m)) ∧ u.cell? ⟨b15, m * 8 + 3, none⟩ = some (.slice (to m) (tl m) (tc m)) ∧ u.cell? ⟨b15, m * 8 + 4, none⟩ = some (.int .u64 (tb m)) ∧ u.cell? ⟨b15, m * 8 + 5, none⟩ = some (.int .i8 0) ∧ u.cell? ⟨b15, m * 8 + 6, none⟩ = some (.string ⟨#[]⟩) ∧ u.cell? ⟨b15, m * 8 + 7, none⟩ = some (.slice none 0 0) := fun u hu => by
                  have hu2 := below_trans HBV.out hu
                  have r1 := (V12.out u hu2 n h3).2
                  have r2 := (V12.out u hu2 m h4).2
                  exact ⟨r1 0 _ rfl, r1 1 _ rfl, r1 2 _ rfl, r1 3 _ rfl, r1 4 _ rfl, r1 5 _ rfl, r1 6 _ rfl, r1 7 _ rfl, r2 0 _ rfl, r2 1 _ rfl, r2 2 _ rfl, r2 3 _ rfl, r2 4 _ rfl, r2 5 _ rfl, r2 6 _ rfl, r2 7 _ rfl⟩
                clear K CC hb15
                have K : Below w15.heap.size w15 w15.drew := (Below.refl _ _).drew
                go_upto_region 17 with fail
                go_region_held3 (fun u => u.cell? ⟨b15, n * 8, none⟩ = some (.int .i8 (tk n)) ∧ u.cell? ⟨b15, n * 8 + 1, none⟩ = some (.int .u64 0) ∧ u.cell? ⟨b15, n * 8 + 2, none⟩ = some (.bool (tg n)) ∧ u.cell? ⟨b15, n * 8 + 3, none⟩ = some (.slice (to n) (tl n) (tc n)) ∧ u.cell? ⟨b15, n * 8 + 4, none⟩ = some (.int .u64 (tb n)) ∧ u.cell? ⟨b15, n * 8 + 5, none⟩ = some (.int .i8 0) ∧ u.cell? ⟨b15, n * 8 + 6, none⟩ = some (.string ⟨#[]⟩) ∧ u.cell? ⟨b15, n * 8 + 7, none⟩ = some (.slice none 0 0) ∧ u.cell? ⟨b15, m * 8, none⟩ = some (.int .i8 (tk m)) ∧ u.cell? ⟨b15, m * 8 + 1, none⟩ = some (.int .u64 0) ∧ u.cell? ⟨b15, m * 8 + 2, none⟩ = some (.bool (tg m)) ∧ u.cell? ⟨b15, m * 8 + 3, none⟩ = some (.slice (to m) (tl m) (tc m)) ∧ u.cell? ⟨b15, m * 8 + 4, none⟩ = some (.int .u64 (tb m)) ∧ u.cell? ⟨b15, m * 8 + 5, none⟩ = some (.int .i8 0) ∧ u.cell? ⟨b15, m * 8 + 6, none⟩ = some (.string ⟨#[]⟩) ∧ u.cell? ⟨b15, m * 8 + 7, none⟩ = some (.slice none 0 0)) (first | with_reducible exact CD _ K)
                  (first
                    | (go_at_call 12; (with_reducible refine (HS17.out _ (HBV.out.trans (K.mono HBV.out.size))).mono ?_); rintro e w16 ⟨rfl, hb16⟩; replace K := K.trans (hb16.mono K.size)))
                have HBU := hide (HBV.out.trans (K.mono HBV.out.size))
                clear K CD hb16 HBV HS17 HC16
                go_wp2
                go_roundw
                case rel => exact ⟨m + 1, by simp, by omega, HBU⟩
                case measure => simp [intOf]; omega
            · have hone' := hide (show decide (zv n = zv m) = false from decide_eq_false (fun h => by
                rcases HSM.out.1 h with ⟨g, -⟩ | ⟨g, -⟩
                · cases g
                · exact hn9 g))
              have o1' := hide hn9
              clear HSM HCM hok hn9
              go_wp2_with fail
              with_reducible refine (nnan_any (HL.out.below (below_trans HK12.out HBW.out)) (lv n) ln0 ln1).mono ?_
              rintro e w14 ⟨rfl, K8⟩
              rw [show decide (9218868437227405312 < lv n % 9223372036854775808) = false from decide_eq_false (by have := o1'.out; omega)]
              replace HBW := hide (below_trans HBW.out K8)
              clear K8
              have hone := hone'.out
              clear hone' o1' cn
              have HS17 := hide (fun (u : World) (hu : Below w12.heap.size w12 u) => (show Calls Tryz.prog 12 #[.agg #[.int .i8 (tk n), .int .u64 0, .bool (tg n), .slice (to n) (tl n) (tc n), .int .u64 (tb n), .int .i8 0, .string ⟨#[]⟩, .slice none 0 0], .agg #[.int .i8 (tk m), .int .u64 0, .bool (tg m), .slice (to m) (tl m) (tc m), .int .u64 (tb m), .int .i8 0, .string ⟨#[]⟩, .slice none 0 0]] u fun e' w' => e' = .returned (.bool false) ∧ Below u.heap.size u w' from by
                refine (sameval_any ((N12.out n h3).below hu) ((N12.out m h4).below hu)).mono ?_
                rintro e W' ⟨rfl, k⟩
                rw [hone]
                exact ⟨rfl, k⟩))
              have CC : ∀ u : World, Below w14.heap.size w14 u → u.cell? ⟨b15, n * 8, none⟩ = some (.int .i8 (tk n)) ∧ u.cell? ⟨b15, n * 8 + 1, none⟩ = some (.int .u64 0) ∧ u.cell? ⟨b15, n * 8 + 2, none⟩ = some (.bool (tg n)) ∧ u.cell? ⟨b15, n * 8 + 3, none⟩ = some (.slice (to n) (tl n) (tc n)) ∧ u.cell? ⟨b15, n * 8 + 4, none⟩ = some (.int .u64 (tb n)) ∧ u.cell? ⟨b15, n * 8 + 5, none⟩ = some (.int .i8 0) ∧ u.cell? ⟨b15, n * 8 + 6, none⟩ = some (.string ⟨#[]⟩) ∧ u.cell? ⟨b15, n * 8 + 7, none⟩ = some (.slice none 0 0) ∧ u.cell? ⟨b15, m * 8, none⟩ = some (.int .i8 (tk m)) ∧ u.cell? ⟨b15, m * 8 + 1, none⟩ = some (.int .u64 0) ∧ u.cell? ⟨b15, m * 8 + 2, none⟩ = some (.bool (tg m)) ∧ u.cell? ⟨b15, m * 8 + 3, none⟩ = some (.slice (to m) (tl m) (tc m)) ∧ u.cell? ⟨b15, m * 8 + 4, none⟩ = some (.int .u64 (tb m)) ∧ u.cell? ⟨b15, m * 8 + 5, none⟩ = some (.int .i8 0) ∧ u.cell? ⟨b15, m * 8 + 6, none⟩ = some (.string ⟨#[]⟩) ∧ u.cell? ⟨b15, m * 8 + 7, none⟩ = some (.slice none 0 0) := fun u hu => by
                have hu2 := below_trans HBW.out hu
                have r1 := (V12.out u hu2 n h3).2
                have r2 := (V12.out u hu2 m h4).2
                exact ⟨r1 0 _ rfl, r1 1 _ rfl, r1 2 _ rfl, r1 3 _ rfl, r1 4 _ rfl, r1 5 _ rfl, r1 6 _ rfl, r1 7 _ rfl, r2 0 _ rfl, r2 1 _ rfl, r2 2 _ rfl, r2 3 _ rfl, r2 4 _ rfl, r2 5 _ rfl, r2 6 _ rfl, r2 7 _ rfl⟩
              have K : Below w14.heap.size w14 w14.drew := (Below.refl _ _).drew
              clear hone
              go_upto_region 16 with fail
              go_region_held3 (fun u => u.cell? ⟨b15, n * 8, none⟩ = some (.int .i8 (tk n)) ∧ u.cell? ⟨b15, n * 8 + 1, none⟩ = some (.int .u64 0) ∧ u.cell? ⟨b15, n * 8 + 2, none⟩ = some (.bool (tg n)) ∧ u.cell? ⟨b15, n * 8 + 3, none⟩ = some (.slice (to n) (tl n) (tc n)) ∧ u.cell? ⟨b15, n * 8 + 4, none⟩ = some (.int .u64 (tb n)) ∧ u.cell? ⟨b15, n * 8 + 5, none⟩ = some (.int .i8 0) ∧ u.cell? ⟨b15, n * 8 + 6, none⟩ = some (.string ⟨#[]⟩) ∧ u.cell? ⟨b15, n * 8 + 7, none⟩ = some (.slice none 0 0) ∧ u.cell? ⟨b15, m * 8, none⟩ = some (.int .i8 (tk m)) ∧ u.cell? ⟨b15, m * 8 + 1, none⟩ = some (.int .u64 0) ∧ u.cell? ⟨b15, m * 8 + 2, none⟩ = some (.bool (tg m)) ∧ u.cell? ⟨b15, m * 8 + 3, none⟩ = some (.slice (to m) (tl m) (tc m)) ∧ u.cell? ⟨b15, m * 8 + 4, none⟩ = some (.int .u64 (tb m)) ∧ u.cell? ⟨b15, m * 8 + 5, none⟩ = some (.int .i8 0) ∧ u.cell? ⟨b15, m * 8 + 6, none⟩ = some (.string ⟨#[]⟩) ∧ u.cell? ⟨b15, m * 8 + 7, none⟩ = some (.slice none 0 0)) (first | with_reducible exact CC _ K)
                (first
                  | (go_at_call 15; (with_reducible refine (HC16.out _ (HBW.out.trans (K.mono HBW.out.size))).mono ?_); rintro e w15 ⟨rfl, hb15⟩; replace K := K.trans (hb15.mono K.size)))
              have HBV := hide (HBW.out.trans (K.mono HBW.out.size))
              have CD : ∀ u : World, Below w15.heap.size w15 u → u.cell? ⟨b15, n * 8, none⟩ = some (.int .i8 (tk n)) ∧ u.cell? ⟨b15, n * 8 + 1, none⟩ = some (.int .u64 0) ∧ u.cell? ⟨b15, n * 8 + 2, none⟩ = some (.bool (tg n)) ∧ u.cell? ⟨b15, n * 8 + 3, none⟩ = some (.slice (to n) (tl n) (tc n)) ∧ u.cell? ⟨b15, n * 8 + 4, none⟩ = some (.int .u64 (tb n)) ∧ u.cell? ⟨b15, n * 8 + 5, none⟩ = some (.int .i8 0) ∧ u.cell? ⟨b15, n * 8 + 6, none⟩ = some (.string ⟨#[]⟩) ∧ u.cell? ⟨b15, n * 8 + 7, none⟩ = some (.slice none 0 0) ∧ u.cell? ⟨b15, m * 8, none⟩ = some (.int .i8 (tk m)) ∧ u.cell? ⟨b15, m * 8 + 1, none⟩ = some (.int .u64 0) ∧ u.cell? ⟨b15, m * 8 + 2, none⟩ = some (.bool (tg m)) ∧ u.cell? ⟨b15, m * 8 + 3, none⟩ = some (.slice (to m) (tl m) (tc m)) ∧ u.cell? ⟨b15, m * 8 + 4, none⟩ = some (.int .u64 (tb m)) ∧ u.cell? ⟨b15, m * 8 + 5, none⟩ = some (.int .i8 0) ∧ u.cell? ⟨b15, m * 8 + 6, none⟩ = some (.string ⟨#[]⟩) ∧ u.cell? ⟨b15, m * 8 + 7, none⟩ = some (.slice none 0 0) := fun u hu => by
                have hu2 := below_trans HBV.out hu
                have r1 := (V12.out u hu2 n h3).2
                have r2 := (V12.out u hu2 m h4).2
                exact ⟨r1 0 _ rfl, r1 1 _ rfl, r1 2 _ rfl, r1 3 _ rfl, r1 4 _ rfl, r1 5 _ rfl, r1 6 _ rfl, r1 7 _ rfl, r2 0 _ rfl, r2 1 _ rfl, r2 2 _ rfl, r2 3 _ rfl, r2 4 _ rfl, r2 5 _ rfl, r2 6 _ rfl, r2 7 _ rfl⟩
              clear K CC hb15
              have K : Below w15.heap.size w15 w15.drew := (Below.refl _ _).drew
              go_upto_region 17 with fail
              go_region_held3 (fun u => u.cell? ⟨b15, n * 8, none⟩ = some (.int .i8 (tk n)) ∧ u.cell? ⟨b15, n * 8 + 1, none⟩ = some (.int .u64 0) ∧ u.cell? ⟨b15, n * 8 + 2, none⟩ = some (.bool (tg n)) ∧ u.cell? ⟨b15, n * 8 + 3, none⟩ = some (.slice (to n) (tl n) (tc n)) ∧ u.cell? ⟨b15, n * 8 + 4, none⟩ = some (.int .u64 (tb n)) ∧ u.cell? ⟨b15, n * 8 + 5, none⟩ = some (.int .i8 0) ∧ u.cell? ⟨b15, n * 8 + 6, none⟩ = some (.string ⟨#[]⟩) ∧ u.cell? ⟨b15, n * 8 + 7, none⟩ = some (.slice none 0 0) ∧ u.cell? ⟨b15, m * 8, none⟩ = some (.int .i8 (tk m)) ∧ u.cell? ⟨b15, m * 8 + 1, none⟩ = some (.int .u64 0) ∧ u.cell? ⟨b15, m * 8 + 2, none⟩ = some (.bool (tg m)) ∧ u.cell? ⟨b15, m * 8 + 3, none⟩ = some (.slice (to m) (tl m) (tc m)) ∧ u.cell? ⟨b15, m * 8 + 4, none⟩ = some (.int .u64 (tb m)) ∧ u.cell? ⟨b15, m * 8 + 5, none⟩ = some (.int .i8 0) ∧ u.cell? ⟨b15, m * 8 + 6, none⟩ = some (.string ⟨#[]⟩) ∧ u.cell? ⟨b15, m * 8 + 7, none⟩ = some (.slice none 0 0)) (first | with_reducible exact CD _ K)
                (first
                  | (go_at_call 12; (with_reducible refine (HS17.out _ (HBV.out.trans (K.mono HBV.out.size))).mono ?_); rintro e w16 ⟨rfl, hb16⟩; replace K := K.trans (hb16.mono K.size)))
              have HBU := hide (HBV.out.trans (K.mono HBV.out.size))
              clear K CD hb16 HBV HS17 HC16
              go_wp2
              go_roundw
              case rel => exact ⟨m + 1, by simp, by omega, HBU⟩
              case measure => simp [intOf]; omega
        · have q2 : ¬ (m : Int) < 3 := by omega
          go_wp2
          go_roundw
          case rel => exact ⟨n + 1, by simp, by omega, HB2⟩
          case measure => simp [intOf]; omega
    · have q : ¬ (n : Int) < 3 := by omega
      go_wp2_with fail
      with_reducible refine (nlives (HL.out.below (below_trans HK12.out HB.out)) (HT.out.below (below_trans HK12.out HB.out)) (HU.out.below (below_trans HK12.out HB.out))).mono ?_
      rintro e w9 ⟨rfl, K9⟩
      have KQ := hide (below_trans (below_trans HK12.out HB.out) K9)
      clear K9
      go_wp2
      go_ret
      exact ⟨rfl, KQ.out⟩

end Go.Proofs.YtbneipinenglgabGreatDoor
