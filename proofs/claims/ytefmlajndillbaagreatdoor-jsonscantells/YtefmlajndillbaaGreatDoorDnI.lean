/- both scanners beside each other: Close, Len, Depth; all -/
import Derived.Test.YtefmlajndillbaaGreatDoorDnH
namespace Go.Proofs.YtefmlajndillbaaGreatDoor
open Go.RowKit
set_option linter.unusedVariables false

theorem Pl.blt {w : World} {a : Nat → Addr} {B bp of p r : Nat} {ov tv : Value} {s : Sc} (h : Pl w a B bp of p r ov tv s) : B ≤ w.heap.size := by
  have h1 := h.ts.sc.le; have h2 := h.ts.sc.lt; omega

set_option maxRecDepth 100000 in
set_option maxHeartbeats 4000000 in
theorem does_c {w : World} {a : Nat → Addr} {B bp of p r : Nat} {ov tv : Value} {s : Sc} {on : Int} {ch : ByteArray} (h : Pl w a B bp of p r ov tv s) (hS : SH B w a) :
    Calls Tryz.prog 8 #[.pointer (some ⟨bp, of, none⟩), .agg #[.int .i64 2, .int .i64 on, .string ch]] w (Done w a B bp of p r ov tv s) := by
  have HB : Below w.heap.size w (w.alloc (.cells #[.int .i64 2, .int .i64 on, .string ch] 31)) := (Below.refl _ _).alloc (Nat.le_refl _) _
  obtain ⟨O, hO⟩ : ∃ O, w.heap.size = O := ⟨_, rfl⟩
  have hnew := heap_alloc_new w (.cells #[.int .i64 2, .int .i64 on, .string ch] 31)
  rw [hO] at hnew
  have hpl := h.below HB
  have hss := hS.below (HB.mono h.blt)
  have HFB := hide (Fb.below (p := p) (r := r) (ov := ov) (tv := tv) HB)
  have k0 : (w.alloc (.cells #[.int .i64 2, .int .i64 on, .string ch] 31)).cell? ⟨O, 0, none⟩ = some (.int .i64 2) := Lib.cell_of_heap hnew 0
  obtain ⟨W, hW⟩ : ∃ W, w.alloc (.cells #[.int .i64 2, .int .i64 on, .string ch] 31) = W := ⟨_, rfl⟩
  rw [hW] at HB hnew hpl hss HFB k0
  have HPD := hide hpl
  have HSD := hide hss
  have HG := hide h.ts.good
  have HBW := hide hpl.blt
  have K : Below W.heap.size W W.drew := (Below.refl _ _).drew
  have CC : ∀ u, Below W.heap.size W u → u.cell? ⟨bp, of, none⟩ = some (.pointer (some ⟨p, 0, none⟩)) ∧ u.cell? ⟨bp, of + 1, none⟩ = some (.pointer (some ⟨r, 0, none⟩)) := fun u hu => ⟨(HPD.out.below hu).c0, (HPD.out.below hu).c1⟩
  have C1 := hide (show ∀ u, Below W.heap.size W u → Calls Tryz.prog 15 #[.pointer (some ⟨p, 0, none⟩)] u fun e w' => ∃ v, e = .returned v ∧ Tl w' a u.heap.size (codeC s) s.size v ∧ Below u.heap.size u w' from fun u hu => jClose (HPD.out.below hu).ts ((HSD.out u (hu.mono HBW.out)).1))
  have C2 := hide (show ∀ u, Below W.heap.size W u → Calls Tryz.prog 16 #[.pointer (some ⟨r, 0, none⟩)] u fun e w' => e = .returned (fltV (codeC s) (atC (codeC s) s.size)) ∧ Below u.heap.size u w' from fun u hu => dClose (HPD.out.below hu).rs (by have := HG.out.bd; omega))
  clear h hS hpl hss HB hnew
  go_enter Tryz.func8, Tryz.ntmps8
  go_wp2_with fail
  go_region_held3 (fun u => u.cell? ⟨bp, of, none⟩ = some (.pointer (some ⟨p, 0, none⟩)) ∧ u.cell? ⟨bp, of + 1, none⟩ = some (.pointer (some ⟨r, 0, none⟩))) (with_reducible exact CC _ K)
    (first
      | (go_at_call 15; (refine (C1.out _ K).mono ?_); rintro e w2 ⟨v, rfl, ht, hb2⟩; replace K := K.trans (hb2.mono K.size); have HT := hide ht; clear ht hb2)
      | (go_at_call 16; (refine (C2.out _ K).mono ?_); rintro e w3 ⟨rfl, hb3⟩; replace K := K.trans (hb3.mono K.size); have C3 := hide (pfits (HT.out.below hb3) (code_ok HG.out) (HSD.out w3 (K.mono HBW.out)).1 (HSD.out w3 (K.mono HBW.out)).2); clear hb3)
      | (go_at_call 12; (refine C3.out.mono ?_); rintro e w4 ⟨rfl, hb4⟩; replace K := K.trans (hb4.mono K.size); clear hb4))
  have HK := hide K
  clear K CC
  go_wp2
  go_ret
  exact ⟨rfl, ov, tv, HPD.out.below HK.out, HFB.out.trans (Fb.below HK.out)⟩
set_option maxRecDepth 100000 in
set_option maxHeartbeats 4000000 in
theorem does_l {w : World} {a : Nat → Addr} {B bp of p r : Nat} {ov tv : Value} {s : Sc} {on : Int} {ch : ByteArray} (h : Pl w a B bp of p r ov tv s) (hS : SH B w a) :
    Calls Tryz.prog 8 #[.pointer (some ⟨bp, of, none⟩), .agg #[.int .i64 3, .int .i64 on, .string ch]] w (Done w a B bp of p r ov tv s) := by
  have HB : Below w.heap.size w (w.alloc (.cells #[.int .i64 3, .int .i64 on, .string ch] 31)) := (Below.refl _ _).alloc (Nat.le_refl _) _
  obtain ⟨O, hO⟩ : ∃ O, w.heap.size = O := ⟨_, rfl⟩
  have hnew := heap_alloc_new w (.cells #[.int .i64 3, .int .i64 on, .string ch] 31)
  rw [hO] at hnew
  have hpl := h.below HB
  have hss := hS.below (HB.mono h.blt)
  have HFB := hide (Fb.below (p := p) (r := r) (ov := ov) (tv := tv) HB)
  have k0 : (w.alloc (.cells #[.int .i64 3, .int .i64 on, .string ch] 31)).cell? ⟨O, 0, none⟩ = some (.int .i64 3) := Lib.cell_of_heap hnew 0
  obtain ⟨W, hW⟩ : ∃ W, w.alloc (.cells #[.int .i64 3, .int .i64 on, .string ch] 31) = W := ⟨_, rfl⟩
  rw [hW] at HB hnew hpl hss HFB k0
  have HPD := hide hpl
  have HSD := hide hss
  have HG := hide h.ts.good
  have HBW := hide hpl.blt
  have K : Below W.heap.size W W.drew := (Below.refl _ _).drew
  have CC : ∀ u, Below W.heap.size W u → u.cell? ⟨bp, of, none⟩ = some (.pointer (some ⟨p, 0, none⟩)) ∧ u.cell? ⟨bp, of + 1, none⟩ = some (.pointer (some ⟨r, 0, none⟩)) := fun u hu => ⟨(HPD.out.below hu).c0, (HPD.out.below hu).c1⟩
  have C1 := hide (show ∀ u, Below W.heap.size W u → Calls Tryz.prog 17 #[.pointer (some ⟨p, 0, none⟩)] u fun e w' => e = .returned (.int .i64 s.size) ∧ w' = u from fun u hu => jLen (HPD.out.below hu).ts.sc)
  have C2 := hide (show ∀ u, Below W.heap.size W u → Calls Tryz.prog 18 #[.pointer (some ⟨r, 0, none⟩)] u fun e w' => e = .returned (.int .i64 s.size) ∧ w' = u from fun u hu => dLen (HPD.out.below hu).rs)
  obtain ⟨Z, hZ⟩ : ∃ Z : Int, (s.size : Int) = Z := ⟨_, rfl⟩
  rw [hZ] at C1 C2
  clear h hS hpl hss HB hnew hZ
  go_enter Tryz.func8, Tryz.ntmps8
  go_wp2_with fail
  go_region_held3 (fun u => u.cell? ⟨bp, of, none⟩ = some (.pointer (some ⟨p, 0, none⟩)) ∧ u.cell? ⟨bp, of + 1, none⟩ = some (.pointer (some ⟨r, 0, none⟩))) (with_reducible exact CC _ K)
    (first
      | (go_at_call 17; (refine (C1.out _ K).mono ?_); rintro e w2 ⟨rfl, rfl⟩)
      | (go_at_call 18; (refine (C2.out _ K).mono ?_); rintro e w3 ⟨rfl, rfl⟩))
  have HK := hide K
  clear K CC
  go_wp2
  go_ret
  exact ⟨rfl, ov, tv, HPD.out.below HK.out, HFB.out.trans (Fb.below HK.out)⟩
set_option maxRecDepth 100000 in
set_option maxHeartbeats 4000000 in
theorem does_d {w : World} {a : Nat → Addr} {B bp of p r : Nat} {ov tv : Value} {s : Sc} {on : Int} {ch : ByteArray} (h : Pl w a B bp of p r ov tv s) (hS : SH B w a) :
    Calls Tryz.prog 8 #[.pointer (some ⟨bp, of, none⟩), .agg #[.int .i64 4, .int .i64 on, .string ch]] w (Done w a B bp of p r ov tv s) := by
  have HB : Below w.heap.size w (w.alloc (.cells #[.int .i64 4, .int .i64 on, .string ch] 31)) := (Below.refl _ _).alloc (Nat.le_refl _) _
  obtain ⟨O, hO⟩ : ∃ O, w.heap.size = O := ⟨_, rfl⟩
  have hnew := heap_alloc_new w (.cells #[.int .i64 4, .int .i64 on, .string ch] 31)
  rw [hO] at hnew
  have hpl := h.below HB
  have hss := hS.below (HB.mono h.blt)
  have HFB := hide (Fb.below (p := p) (r := r) (ov := ov) (tv := tv) HB)
  have k0 : (w.alloc (.cells #[.int .i64 4, .int .i64 on, .string ch] 31)).cell? ⟨O, 0, none⟩ = some (.int .i64 4) := Lib.cell_of_heap hnew 0
  obtain ⟨W, hW⟩ : ∃ W, w.alloc (.cells #[.int .i64 4, .int .i64 on, .string ch] 31) = W := ⟨_, rfl⟩
  rw [hW] at HB hnew hpl hss HFB k0
  have HPD := hide hpl
  have HSD := hide hss
  have HG := hide h.ts.good
  have HBW := hide hpl.blt
  have K : Below W.heap.size W W.drew := (Below.refl _ _).drew
  have CC : ∀ u, Below W.heap.size W u → u.cell? ⟨bp, of, none⟩ = some (.pointer (some ⟨p, 0, none⟩)) ∧ u.cell? ⟨bp, of + 1, none⟩ = some (.pointer (some ⟨r, 0, none⟩)) := fun u hu => ⟨(HPD.out.below hu).c0, (HPD.out.below hu).c1⟩
  have C1 := hide (show ∀ u, Below W.heap.size W u → Calls Tryz.prog 19 #[.pointer (some ⟨p, 0, none⟩)] u fun e w' => e = .returned (.int .i64 (s.st.opn.length : Nat)) ∧ w' = u from fun u hu => jDepth (HPD.out.below hu).ts.sc)
  have C2 := hide (show ∀ u, Below W.heap.size W u → Calls Tryz.prog 20 #[.pointer (some ⟨r, 0, none⟩)] u fun e w' => e = .returned (.int .i64 (s.st.opn.length : Nat)) ∧ w' = u from fun u hu => dDepth (HPD.out.below hu).rs)
  obtain ⟨Z, hZ⟩ : ∃ Z : Int, ((s.st.opn.length : Nat) : Int) = Z := ⟨_, rfl⟩
  rw [hZ] at C1 C2
  clear h hS hpl hss HB hnew hZ
  go_enter Tryz.func8, Tryz.ntmps8
  go_wp2_with fail
  go_region_held3 (fun u => u.cell? ⟨bp, of, none⟩ = some (.pointer (some ⟨p, 0, none⟩)) ∧ u.cell? ⟨bp, of + 1, none⟩ = some (.pointer (some ⟨r, 0, none⟩))) (with_reducible exact CC _ K)
    (first
      | (go_at_call 19; (refine (C1.out _ K).mono ?_); rintro e w2 ⟨rfl, rfl⟩)
      | (go_at_call 20; (refine (C2.out _ K).mono ?_); rintro e w3 ⟨rfl, rfl⟩))
  have HK := hide K
  clear K CC
  go_wp2
  go_ret
  exact ⟨rfl, ov, tv, HPD.out.below HK.out, HFB.out.trans (Fb.below HK.out)⟩
set_option maxRecDepth 100000 in
set_option maxHeartbeats 4000000 in
theorem does_o {w : World} {a : Nat → Addr} {B bp of p r : Nat} {ov tv : Value} {s : Sc} {on : Int} {ch : ByteArray} {kd : Int} (h : Pl w a B bp of p r ov tv s) (hS : SH B w a) (h1 : kd ≠ 1) (h2 : kd ≠ 2) (h3 : kd ≠ 3) (h4 : kd ≠ 4) :
    Calls Tryz.prog 8 #[.pointer (some ⟨bp, of, none⟩), .agg #[.int .i64 kd, .int .i64 on, .string ch]] w (Done w a B bp of p r ov tv s) := by
  have HB : Below w.heap.size w (w.alloc (.cells #[.int .i64 kd, .int .i64 on, .string ch] 31)) := (Below.refl _ _).alloc (Nat.le_refl _) _
  obtain ⟨O, hO⟩ : ∃ O, w.heap.size = O := ⟨_, rfl⟩
  have hnew := heap_alloc_new w (.cells #[.int .i64 kd, .int .i64 on, .string ch] 31)
  rw [hO] at hnew
  have hpl := h.below HB
  have hss := hS.below (HB.mono h.blt)
  have HFB := hide (Fb.below (p := p) (r := r) (ov := ov) (tv := tv) HB)
  have k0 : (w.alloc (.cells #[.int .i64 kd, .int .i64 on, .string ch] 31)).cell? ⟨O, 0, none⟩ = some (.int .i64 kd) := Lib.cell_of_heap hnew 0
  obtain ⟨W, hW⟩ : ∃ W, w.alloc (.cells #[.int .i64 kd, .int .i64 on, .string ch] 31) = W := ⟨_, rfl⟩
  rw [hW] at HB hnew hpl hss HFB k0
  have HPD := hide hpl
  have HSD := hide hss
  have HG := hide h.ts.good
  have HBW := hide hpl.blt
  have b1 : (kd == 1) = false := beq_eq_false_iff_ne.2 h1
  have b2 : (kd == 2) = false := beq_eq_false_iff_ne.2 h2
  have b3 : (kd == 3) = false := beq_eq_false_iff_ne.2 h3
  have b4 : (kd == 4) = false := beq_eq_false_iff_ne.2 h4
  clear h hS hpl hss HB hnew h1 h2 h3 h4
  go_enter Tryz.func8, Tryz.ntmps8
  go_wp2
  go_ret
  exact ⟨rfl, ov, tv, HPD.out, HFB.out⟩
/-- a question -/
theorem does_q {w : World} {a : Nat → Addr} {B bp of p r : Nat} {ov tv : Value} {s : Sc} {kd : Int} (h : Pl w a B bp of p r ov tv s) (hS : SH B w a) (hsz : s.size + 4 ≤ 140737488355328) :
    Calls Tryz.prog 8 #[.pointer (some ⟨bp, of, none⟩), .agg #[.int .i64 kd, .int .i64 0, .string ⟨#[]⟩]] w (Done w a B bp of p r ov tv s) := by
  by_cases k1 : kd = 1
  · subst k1
    exact does_w (es := []) h hS (fun x hx => absurd hx (by simp)) rfl (by simpa using hsz)
  by_cases k2 : kd = 2
  · subst k2; exact does_c h hS
  by_cases k3 : kd = 3
  · subst k3; exact does_l h hS
  by_cases k4 : kd = 4
  · subst k4; exact does_d h hS
  · exact does_o h hS k1 k2 k3 k4
set_option maxRecDepth 100000 in
theorem pall {w : World} {a : Nat → Addr} {B bp of p r : Nat} {ov tv : Value} {s : Sc} (h : Pl w a B bp of p r ov tv s) (hS : SH B w a) (hsz : s.size + 4 ≤ 140737488355328) :
    Calls Tryz.prog 9 #[.pointer (some ⟨bp, of, none⟩)] w (Done w a B bp of p r ov tv s) := by
  have HC := hide (show ∀ u ov1 tv1, Pl u a B bp of p r ov1 tv1 s → SH B u a → ∀ kd : Int, Calls Tryz.prog 8 #[.pointer (some ⟨bp, of, none⟩), .agg #[.int .i64 kd, .int .i64 0, .string ⟨#[]⟩]] u (Done u a B bp of p r ov1 tv1 s) from
    fun u ov1 tv1 hu hs kd => does_q hu hs hsz)
  have C0 := hide (HC.out w ov tv h hS 2)
  have HS := hide hS
  have HPW := hide h
  clear h hS
  go_enter Tryz.func9, Tryz.ntmps9
  go_wp2_with fail
  refine C0.out.mono ?_
  rintro e w1 ⟨rfl, ov1, tv1, g1, g2⟩
  have F1 := hide g2
  have P1 := hide g1
  have C1 := hide (HC.out w1 ov1 tv1 g1 (HS.out.below (HPW.out.toBelow F1.out)) 3)
  clear g1 g2 C0
  go_wp2_with fail
  refine C1.out.mono ?_
  rintro e w2 ⟨rfl, ov2, tv2, g1, g2⟩
  have F2 := hide (F1.out.trans g2)
  have P2 := hide g1
  have C2 := hide (HC.out w2 ov2 tv2 g1 (HS.out.below (HPW.out.toBelow F2.out)) 4)
  clear g1 g2 C1
  go_wp2_with fail
  refine C2.out.mono ?_
  rintro e w3 ⟨rfl, ov3, tv3, g1, g2⟩
  have F3 := hide (F2.out.trans g2)
  have P3 := hide g1
  have C3 := hide (HC.out w3 ov3 tv3 g1 (HS.out.below (HPW.out.toBelow F3.out)) 1)
  clear g1 g2 C2
  go_wp2_with fail
  refine C3.out.mono ?_
  rintro e w4 ⟨rfl, ov4, tv4, g1, g2⟩
  have F4 := hide (F3.out.trans g2)
  have P4 := hide g1
  have C4 := hide (HC.out w4 ov4 tv4 g1 (HS.out.below (HPW.out.toBelow F4.out)) 2)
  clear g1 g2 C3
  go_wp2_with fail
  refine C4.out.mono ?_
  rintro e w5 ⟨rfl, ov5, tv5, g1, g2⟩
  have F5 := hide (F4.out.trans g2)
  have P5 := hide g1
  clear g1 g2 C4
  go_wp2
  go_ret
  exact ⟨rfl, ov5, tv5, P5.out, F5.out⟩

end Go.Proofs.YtefmlajndillbaaGreatDoor
