/- JsonscanTells: the walk -/
import Derived.Test.YtefmlajndillbaaGreatDoorDnI
namespace Go.Proofs.YtefmlajndillbaaGreatDoor
open Go.RowKit
set_option linter.unusedVariables false

theorem dNewB {w : World} {B : Nat} (hB : B ≤ w.heap.size) : Calls Tryz.prog 7 #[] w fun e w' => e = .returned (.pointer (some ⟨w.heap.size, 0, none⟩)) ∧ DS w' B w.heap.size (.slice none 0 0) sc0 ∧ Below w.heap.size w w' := by
  have HB := hide hB
  clear hB
  go_enter Tryz.func7, Tryz.ntmps7
  go_wp2
  go_ret
  refine ⟨rfl, ⟨[], ⟨0, [], 0, 0, 0, 0, 0, 0, false, [], 0, 0, 0⟩, ⟨heap_alloc_new w _, World.ownsRow_nil _ _ _ _, HB.out⟩, rfl, rfl, rfl, rfl, fun _ => ⟨⟨⟨0, [], false, []⟩, ⟨rfl, rfl, rfl, rfl⟩, ⟨rfl, rfl, nofun, nofun, nofun, nofun⟩, fun _ => rfl, nofun⟩, rfl⟩⟩, (Below.refl _ _).alloc (Nat.le_refl _) _⟩
theorem ptr_nil (w : World) (q : Addr) : (binOp .neq 23 (.pointer (some q)) (.pointer none)).run Tryz.prog w = .ok (.bool true) w := by
  have h : ∀ d : Nat, (Op.equalIn (d + 1) 23 (.pointer (some q)) (.pointer none)).run Tryz.prog w = .ok false w := fun d => by
    simp [Op.equalIn, run_underlying Tryz.underlying23]
  simp only [binOp]
  simp [Op.equal, Op.maxDepth, h 9999]
/-- a new place -/
theorem pl_new {w1 w2 : World} {a : Nat → Addr} {B p R : Nat} (h1 : ScP w1 a B p (.slice none 0 0) sc0) (hR : w1.heap.size = R) (hb : Below R w1 w2) (h2 : DS w2 B R (.slice none 0 0) sc0) (T : TypeId) :
    Pl (w2.alloc (.cells #[.pointer (some ⟨p, 0, none⟩), .pointer (some ⟨R, 0, none⟩)] T)) a B w2.heap.size 0 p R (.slice none 0 0) (.slice none 0 0) sc0 := by
  have hn := heap_alloc_new w2 (.cells #[.pointer (some ⟨p, 0, none⟩), .pointer (some ⟨R, 0, none⟩)] T)
  have hbl : Below w2.heap.size w2 (w2.alloc (.cells #[.pointer (some ⟨p, 0, none⟩), .pointer (some ⟨R, 0, none⟩)] T)) := (Below.refl _ _).alloc (Nat.le_refl _) _
  have l1 := h1.sc.lt
  have l2 := h2.lt
  subst hR
  exact ⟨(h1.below hb).below hbl, h2.below hbl, Lib.cell_of_heap hn 0, Lib.cell_of_heap hn 1, by simp, ⟨by omega, by omega, by omega⟩, fun g e => by simp [Value.ownBlock] at e, fun g e => by simp [Value.ownBlock] at e⟩
set_option maxRecDepth 100000 in
set_option maxHeartbeats 4000000 in
theorem jtells {w : World} {a : Nat → Addr} {es : List Int} {ch : ByteArray} (hS : Snt w a) (hH : Hnd w) (hb : uByt es) (hch : ch = strOfNums es) (hl : es.length + 4 ≤ 140737488355328) :
    Calls Tryz.prog 5 #[.string ch] w fun e w' => e = .returned (.bool true) ∧ Below w.heap.size w w' := by
  have C0 := hide (jNew (w := w) (a := a))
  have HSH := hide (SH.of hS hH)
  have HD := hide (show _ ∧ _ ∧ _ from ⟨hb, hch, hl⟩)
  clear hS hH hb hch hl
  obtain ⟨B, hB⟩ : ∃ B, w.heap.size = B := ⟨_, rfl⟩
  rw [hB] at C0 HSH ⊢
  go_enter Tryz.func5, Tryz.ntmps5
  go_wp2_with fail
  refine C0.out.mono ?_
  rintro e w1 ⟨rfl, g1, g2⟩
  have hsz1 : B ≤ w1.heap.size := by have := g1.sc.lt; omega
  have C1 := hide (dNewB (w := w1) (B := B) hsz1)
  obtain ⟨R, hR⟩ : ∃ R, w1.heap.size = R := ⟨_, rfl⟩
  rw [hR] at C1
  have G1 := hide (show _ ∧ _ from ⟨g1, g2⟩)
  have HR := hide hR
  clear g1 g2 C0 hsz1 hR
  go_wp2_with fail
  refine C1.out.mono ?_
  rintro e w2 ⟨rfl, g3, g4⟩
  have hpl := pl_new G1.out.1 HR.out g4 g3 28
  have hbel : Below B w (w2.alloc (.cells #[.pointer (some ⟨B, 0, none⟩), .pointer (some ⟨R, 0, none⟩)] 28)) := by
    have l1 := G1.out.1.sc.lt
    have l2 := g3.lt
    have l3 := HR.out
    exact (G1.out.2.trans (g4.mono (by omega))).trans ((Below.refl B w2).alloc (by omega) _)
  have hss := HSH.out.below hbel
  have C2 := hide (does_w (on := 0) hpl hss HD.out.1 HD.out.2.1 (by have := HD.out.2.2; show 0 + es.length + 4 ≤ _; omega))
  obtain ⟨G, hG⟩ : ∃ G, w2.heap.size = G := ⟨_, rfl⟩
  rw [hG] at C2 hpl
  have HPL := hide hpl
  have HBL := hide hbel
  have HSZ := hide (show (writeB es sc0).size + 4 ≤ 140737488355328 from by
    have h1 := (write_size es sc0).1
    have h2 : sc0.size = 0 := rfl
    have := HD.out.2.2
    omega)
  clear g3 g4 C1 hpl hss hbel
  have pn := fun u : World => ptr_nil u ⟨B, 0, none⟩
  go_wp2_with fail
  refine C2.out.mono ?_
  rintro e w3 ⟨rfl, ov3, tv3, p3, f3⟩
  have b3 := HPL.out.toBelow f3
  have B3 := hide (HBL.out.trans b3)
  have P3 := hide p3
  have C3 := hide (pall p3 (HSH.out.below B3.out) HSZ.out)
  clear p3 f3 b3 C2 HPL HBL
  go_wp2_with fail
  refine C3.out.mono ?_
  rintro e w4 ⟨rfl, ov4, tv4, p4, f4⟩
  have b4 := P3.out.toBelow f4
  have B4 := hide (B3.out.trans b4)
  have P4 := hide p4
  have C4 := hide (pall p4 (HSH.out.below B4.out) HSZ.out)
  clear p4 f4 b4 C3 P3 B3
  go_wp2_with fail
  refine C4.out.mono ?_
  rintro e w5 ⟨rfl, ov5, tv5, p5, f5⟩
  have b5 := P4.out.toBelow f5
  have B5 := hide (B4.out.trans b5)
  have C5 := hide (jlives (HSH.out w5 B5.out).1 (HSH.out w5 B5.out).2)
  clear p5 f5 b5 C4 P4 B4
  go_wp2_with fail
  refine C5.out.mono ?_
  rintro e w6 ⟨rfl, hb6⟩
  have B6 := hide (B5.out.trans (hb6.mono (by have := B5.out.size; omega)))
  clear hb6 C5 B5
  go_wp2
  go_ret
  exact ⟨rfl, B6.out⟩

end Go.Proofs.YtefmlajndillbaaGreatDoor
