/- NChS -/
import Derived.Test.YtjigofmcflmelaaGreatDoorC11
import Derived.Test.YtjigofmcflmelaaGreatDoorC12
import Derived.Stop.RegionWithIn
namespace Go.Proofs.YtjigofmcflmelaaGreatDoor
open Go.RowKit Go.Shelf
set_option linter.unusedVariables false
attribute [local go_sem] Oper.semAt_some

set_option maxRecDepth 100000 in
set_option maxHeartbeats 8000000 in
theorem check_stop {kl kc ml mc : Nat} {et : TypeId} {eo : Option Addr} {k n1 b e : Int} {g : Bool} {s : ByteArray} {ko mo : Option Addr} {w : World} (hE : w.cell? ⟨0, 0, none⟩ = some (.iface et (.pointer eo))) (hEl : 0 < w.heap.size)
    (hm : ∀ W, Below w.heap.size w W → Calls Tryz.prog 173 #[.agg #[.int .i8 k, .int .u64 n1, .bool g, .slice mo ml mc, .int .u64 b, .int .i8 e, .string s, .slice ko kl kc]] W fun e' W' => e' = .returned (.bool false) ∧ Below W.heap.size W W') :
    Calls Tryz.prog 100 #[.agg #[.int .i8 k, .int .u64 n1, .bool g, .slice mo ml mc, .int .u64 b, .int .i8 e, .string s, .slice ko kl kc]] w fun e' w' => (∃ p, e' = .returned (.iface 231 (.pointer (some p)))) ∧ Below w.heap.size w w' := by
  have HM := hide hm
  clear hm
  refine (callsIn_wide (n := 5)).1 ?_
  refine callsIn_of_wp_marks Tryz.func100 rfl trivial ?_ rfl
  simp only [Tryz.ntmps100, List.size_toArray, List.length_cons, List.length_nil, Nat.reduceAdd, Nat.reduceSub, Array.replicate_succ, Array.replicate_zero, List.push_toArray, List.append_toArray, List.nil_append, List.cons_append]
  gi_wp2_with fail
  refine ⟨trivial, (callsIn_wide.2 nodes_any).mono ?_⟩
  rintro e' w' ⟨rfl, rfl⟩
  have K0 : Below w.heap.size w ((w.alloc (.cells #[.int .i8 k, .int .u64 n1, .bool g, .slice mo ml mc, .int .u64 b, .int .i8 e, .string s, .slice ko kl kc] 31)).alloc (.cells #[.nilIface] 104)) := ((Below.refl _ w).alloc (Nat.le_refl _) _).alloc (by simp) _
  have K : Below w.heap.size w ((((w.alloc (.cells #[.int .i8 k, .int .u64 n1, .bool g, .slice mo ml mc, .int .u64 b, .int .i8 e, .string s, .slice ko kl kc] 31)).alloc (.cells #[.nilIface] 104)).alloc (.cells #[.nilIface] 104)).alloc (.cells #[.int .i8 k, .int .u64 n1, .bool g, .slice mo ml mc, .int .u64 b, .int .i8 e, .string s, .slice ko kl kc] 31)) := (K0.alloc (by simp; omega) _).alloc (by simp; omega) _
  have bR := ((Boxed.new (w.alloc (.cells #[.int .i8 k, .int .u64 n1, .bool g, .slice mo ml mc, .int .u64 b, .int .i8 e, .string s, .slice ko kl kc] 31)) 104 .nilIface).alloc (.cells #[.nilIface] 104)).alloc (.cells #[.int .i8 k, .int .u64 n1, .bool g, .slice mo ml mc, .int .u64 b, .int .i8 e, .string s, .slice ko kl kc] 31)
  have bD := (Boxed.new ((w.alloc (.cells #[.int .i8 k, .int .u64 n1, .bool g, .slice mo ml mc, .int .u64 b, .int .i8 e, .string s, .slice ko kl kc] 31)).alloc (.cells #[.nilIface] 104)) 104 .nilIface).alloc (.cells #[.int .i8 k, .int .u64 n1, .bool g, .slice mo ml mc, .int .u64 b, .int .i8 e, .string s, .slice ko kl kc] 31)
  have bV := bx8_new (((w.alloc (.cells #[.int .i8 k, .int .u64 n1, .bool g, .slice mo ml mc, .int .u64 b, .int .i8 e, .string s, .slice ko kl kc] 31)).alloc (.cells #[.nilIface] 104)).alloc (.cells #[.nilIface] 104)) (.int .i8 k) (.int .u64 n1) (.bool g) (.slice mo ml mc) (.int .u64 b) (.int .i8 e) (.string s) (.slice ko kl kc) 31
  simp only [World.size_alloc] at bR bD bV
  have hsz : ((((w.alloc (.cells #[.int .i8 k, .int .u64 n1, .bool g, .slice mo ml mc, .int .u64 b, .int .i8 e, .string s, .slice ko kl kc] 31)).alloc (.cells #[.nilIface] 104)).alloc (.cells #[.nilIface] 104)).alloc (.cells #[.int .i8 k, .int .u64 n1, .bool g, .slice mo ml mc, .int .u64 b, .int .i8 e, .string s, .slice ko kl kc] 31)).heap.size = w.heap.size + 4 := by simp
  have HR := hide bR
  have HD := hide bD
  have HV := hide bV
  have HK := hide K
  have HS := hide hsz
  clear bR bD bV K K0 hsz
  gi_wp2_with fail
  generalize (((w.alloc (.cells #[.int .i8 k, .int .u64 n1, .bool g, .slice mo ml mc, .int .u64 b, .int .i8 e, .string s, .slice ko kl kc] 31)).alloc (.cells #[.nilIface] 104)).alloc (.cells #[.nilIface] 104)).alloc (.cells #[.int .i8 k, .int .u64 n1, .bool g, .slice mo ml mc, .int .u64 b, .int .i8 e, .string s, .slice ko kl kc] 31) = w4 at *
  refine wpIn_rangeS rfl (by omega) (gf := 201) (lb := #[.pointer (some ⟨w.heap.size + 1 + 1 + 1, 0, none⟩)]) (by simp [go_sem]) trivial (enters_of Tryz.func201 (by kernel_rfl) rfl)
    (nodes_stop HV.out) (fun _ _ _ _ _ _ h _ => h) (fun _ _ _ _ h _ => h) (Below.refl _ _) (fun _ => rfl)
    (fun pre W => pre = [] ∧ Boxed W (w.heap.size + 1) 104 .nilIface ∧ Below w.heap.size w W)
    (fun c _ W => c = .ret ∧ (∃ p, Boxed W (w.heap.size + 1) 104 (.iface 231 (.pointer (some p)))) ∧ Below w.heap.size w W)
    (fun _ A C h b => ⟨h.1, (b.block _ (by rw [HS.out]; omega)).trans h.2.1, h.2.2.trans (b.mono (by rw [HS.out]; omega))⟩)
    (fun _ _ A C h b => ⟨h.1, h.2.1.imp fun p hp => (b.block _ (by rw [HS.out]; omega)).trans hp, h.2.2.trans (b.mono (by rw [HS.out]; omega))⟩)
    (fun pre W hn h => by rw [h.1] at hn; exact absurd hn (by simp))
    ⟨rfl, HR.out, HK.out⟩
    (fun _ a W => ∃ p, a = { tmps := #[.agg #[.int .i8 k, .int .u64 n1, .bool g, .slice mo ml mc, .int .u64 b, .int .i8 e, .string s, .slice ko kl kc], .pointer (some ⟨w.heap.size, 0, none⟩), .pointer (some ⟨w.heap.size + 1, 0, none⟩), .pointer (some ⟨w.heap.size + 1 + 1, 0, none⟩), .slice none 0 0, .pointer (some ⟨p, 0, none⟩), .agg #[.int .i8 k, .int .u64 n1, .bool g, .slice mo ml mc, .int .u64 b, .int .i8 e, .string s, .slice ko kl kc], .func (.func 201) #[] #[.pointer (some ⟨w.heap.size + 1 + 1 + 1, 0, none⟩)], .slice none 0 0, .agg #[.int .i8 k, .int .u64 n1, .bool g, .slice mo ml mc, .int .u64 b, .int .i8 e, .string s, .slice ko kl kc], undef, undef, undef, undef, undef, undef, undef, undef, undef, undef, undef, undef, undef, undef, undef, undef, undef, undef, undef, undef, undef, undef, undef, undef, undef, undef, undef], defers := [] } ∧ Bx8 W p (.int .i8 k) (.int .u64 n1) (.bool g) (.slice mo ml mc) (.int .u64 b) (.int .i8 e) (.string s) (.slice ko kl kc))
    ?hat ?assign ?body ?done ?stop
  case hat =>
    rintro x a' A l r r' ⟨p, rfl, hp⟩ hl
    refine ⟨p, rfl, hp.same (World.putObj_heap_other ?_)⟩
    rintro rfl
    have := hp.1
    simp [World.cell?, hl] at this
  case assign =>
    intro l x W K hK
    gi_wp2
    refine hK _ _ ((Below.refl _ W).alloc (Nat.le_refl _) _) ⟨W.heap.size, rfl, bx8_new _ _ _ _ _ _ _ _ _ _⟩
  case body =>
    rintro l pre x a' W ⟨hpre, hR, hB⟩ hr ⟨p, rfl, hp⟩ hle
    obtain ⟨z0, z1, z2, z3, z4, z5, z6, z7⟩ := hp
    gi_wp2_with fail
    refine ⟨trivial, (CallsIn.inRound l (callsIn_wide.2 (HM.out W hB))).mono ?_⟩
    rintro e' W2 ⟨rfl, hb2⟩
    have hR2 : Boxed W2 (w.heap.size + 1) 104 .nilIface := (hb2.block _ hR.lt).trans hR
    have hB2 := hide (hB.trans (hb2.mono hB.size))
    have hS2 := hide (Stay.of_below (B := w4.heap.size) hb2)
    have hE2 := (hB2.out.cell (p := ⟨0, 0, none⟩) hEl).trans hE
    clear z0 z1 z2 z3 z4 z5 z6 z7 hb2
    have hc2 := hR2.cell
    have hf2 := hR2.frozen
    gi_wp2_with fail
    have hE2d : W2.drew.cell? ⟨0, 0, none⟩ = some (.iface et (.pointer eo)) := hE2
    have hRd : Boxed W2.drew (w.heap.size + 1) 104 .nilIface := hR2
    have HRd := hide hRd
    have HBd : Hid (Below w.heap.size w W2.drew) := hide (hB2.out.drew)
    have HSd : Hid (Stay w4.heap.size W W2.drew) := hide ⟨hS2.out.size, hS2.out.same⟩
    have hcd := hRd.cell
    have hfd := hRd.frozen
    have hsl : w.heap.size ≤ W2.drew.heap.size := HBd.out.size
    clear hc2 hf2 hE2 hR2 hRd
    gi_region_with (refine ⟨trivial, (CallsIn.inRound l (callsIn_wide.2 written_nil)).mono ?_⟩; rintro e' W3 ⟨rfl, hb3⟩; have hE3 := ((HBd.out.trans (hb3.mono HBd.out.size)).cell (p := ⟨0, 0, none⟩) hEl).trans hE; have HR3 := hide (show Boxed W3 (w.heap.size + 1) 104 .nilIface from (hb3.block _ HRd.out.lt).trans HRd.out); have HB3 := hide hb3; clear hb3; have hc3 := (HR3.out.alloc (.cells #[.iface et (.pointer eo), .int .i64 0, .string ⟨#[]⟩] 234)).cell; have hf3 := (HR3.out.alloc (.cells #[.iface et (.pointer eo), .int .i64 0, .string ⟨#[]⟩] 234)).frozen)
    all_goals
      gi_wp2
      have hne : ∀ k, w4.heap.size ≤ k → k ≠ w.heap.size + 1 := fun k hk => by have := HS.out; omega
      have hB3 : Below w.heap.size w W3 := HBd.out.trans (HB3.out.mono HBd.out.size)
      have hS3 : Stay w4.heap.size W W3 := HSd.out.trans (Stay.of_below HB3.out)
      refine ⟨⟨?_, ?_⟩, rfl, ⟨_, ((HR3.out.alloc _).set _)⟩, (hB3.alloc hB3.size _).setCell (p := ⟨w.heap.size + 1, 0, none⟩) (show w.heap.size ≤ w.heap.size + 1 by omega) _⟩
      · have := hS3.size
        simp
        omega
      · intro j hj1 hj2
        rw [Below.heap_setCell _ _ _ _ (hne j hj1), Below.heap_alloc _ _ _ (by have := hS3.size; omega)]
        exact hS3.same j hj1 hj2
  case done =>
    rintro D ys W hD hys h hK
    rw [h.1] at hys
    exact absurd hys (by simp)
  case stop =>
    rintro D c pre W hD _ ⟨rfl, ⟨p, hR⟩, hB⟩ hK
    have hne : D ≠ w.heap.size + 1 := by have := HS.out; omega
    gi_wp2
    refine ⟨by simp, .inl ⟨_, _, rfl, run_takeDeferred hK, ?_⟩⟩
    have hR2 : Boxed (W.putObj D (.deferred none)) (w.heap.size + 1) 104 (.iface 231 (.pointer (some p))) := (World.putObj_heap_other (Ne.symm hne)).trans hR
    have hB2 : Below w.heap.size w (W.putObj D (.deferred none)) := hB.trans (put_below _ _ (by have := HS.out; omega))
    have c2 := hR2.cell
    have f2 := hR2.frozen
    generalize W.putObj D (.deferred none) = W9 at *
    exact ⟨.iface 231 (.pointer (some p)), by rw [results_cellN rfl]; go_simp, ⟨p, rfl⟩, hB2⟩

end Go.Proofs.YtjigofmcflmelaaGreatDoor
