/- JsonscanNone: the walk -/
import Derived.Test.YtefmlajndillbaaGreatDoorJsV
namespace Go.Proofs.YtefmlajndillbaaGreatDoor
open Go.RowKit
set_option linter.unusedVariables false

theorem jresults_cell {fn : Func} {p : Tmp} {ty : TypeId} (h : fn.results = #[.cell p ty]) (tmps : Array Value) (P : Program) (w : World) :
    (results fn tmps).run P w = ((asAddr (tmps.getD p undef)).run P w).andThen fun a w₁ => (loadVar ty a).run P w₁ := by
  simp only [results, h]
  simp [Sem.run_bind, Result.andThen]
theorem jneq_none (w : World) (q : Addr) : (binOp .neq 23 (.pointer none) (.pointer (some q))).run Tryz.prog w = .ok (.bool true) w := by
  have h : ∀ d : Nat, (Op.equalIn (d + 1) 23 (.pointer none) (.pointer (some q))).run Tryz.prog w = .ok false w := fun d => by
    simp [Op.equalIn, run_underlying Tryz.underlying23]
  simp only [binOp]
  simp [Op.equal, Op.maxDepth, h 9999]
/-- a scanner that is not there -/
def Ms (w : World) (v : Value) : Prop := v = .pointer none ∨ ∃ g, v = .pointer (some ⟨g, 0, none⟩) ∧ w.cell? ⟨g, 0, none⟩ = some (.pointer none) ∧ g < w.heap.size
theorem Ms.below {w w' : World} {v : Value} (h : Ms w v) (hb : Below w.heap.size w w') : Ms w' v := by
  rcases h with h | ⟨g, h1, h2, h3⟩
  · exact Or.inl h
  · exact Or.inr ⟨g, h1, by rw [(fubcell0 hb).1 _ _ h3]; exact h2, Nat.lt_of_lt_of_le h3 hb.size⟩
set_option maxRecDepth 100000 in
theorem mmissing {w : World} {v : Value} (h : Ms w v) : Calls Tryz.prog 31 #[v] w fun e w' => e = .returned (.bool true) ∧ w' = w := by
  rcases h with rfl | ⟨g, rfl, h2, h3⟩
  · go_enter Tryz.func31, Tryz.ntmps31
    go_wp2
    go_ret
    exact ⟨rfl, rfl⟩
  · have q := jneq_none w ⟨g, 0, none⟩
    go_enter Tryz.func31, Tryz.ntmps31
    go_wp2
    go_ret
    exact ⟨rfl, rfl⟩
theorem mWrite {w : World} {a : Nat → Addr} {v : Value} {ch : ByteArray} (h : Ms w v) (hS : Snt w a) : Calls Tryz.prog 13 #[v, .string ch] w fun e w' => e = .returned (erV a 2) ∧ w' = w := by
  have C := hide (mmissing h)
  have c := hS.cell 1 (by omega)
  simp only [sG, List.getD_cons_zero, List.getD_cons_succ] at c
  clear hS h
  go_enter Tryz.func13, Tryz.ntmps13
  go_wp2_with fail
  refine C.out.mono ?_
  rintro e w1 ⟨rfl, rfl⟩
  go_wp2
  go_ret
  exact ⟨rfl, rfl⟩
theorem mClose {w : World} {a : Nat → Addr} {v : Value} (h : Ms w v) (hS : Snt w a) : Calls Tryz.prog 15 #[v] w fun e w' => e = .returned (erV a 2) ∧ w' = w := by
  have C := hide (mmissing h)
  have c := hS.cell 1 (by omega)
  simp only [sG, List.getD_cons_zero, List.getD_cons_succ] at c
  clear hS h
  go_enter Tryz.func15, Tryz.ntmps15
  go_wp2_with fail
  refine C.out.mono ?_
  rintro e w1 ⟨rfl, rfl⟩
  go_wp2
  go_ret
  exact ⟨rfl, rfl⟩
theorem mLen {w : World} {v : Value} (h : Ms w v) : Calls Tryz.prog 17 #[v] w fun e w' => e = .returned (.int .i64 0) ∧ w' = w := by
  have C := hide (mmissing h)
  clear h
  go_enter Tryz.func17, Tryz.ntmps17
  go_wp2_with fail
  refine C.out.mono ?_
  rintro e w1 ⟨rfl, rfl⟩
  go_wp2
  go_ret
  exact ⟨rfl, rfl⟩
theorem mDepth {w : World} {v : Value} (h : Ms w v) : Calls Tryz.prog 19 #[v] w fun e w' => e = .returned (.int .i64 0) ∧ w' = w := by
  have C := hide (mmissing h)
  clear h
  go_enter Tryz.func19, Tryz.ntmps19
  go_wp2_with fail
  refine C.out.mono ?_
  rintro e w1 ⟨rfl, rfl⟩
  go_wp2
  go_ret
  exact ⟨rfl, rfl⟩
/-- the document's scanner that no call made -/
def Rz (w : World) (g : Nat) : Prop := w.heap[g]? = some (.cells #[.bool false, .int .i64 0, .string ⟨#[]⟩, .int .i64 0, .int .i64 0, .int .i64 0, .int .i64 0, .int .u8 0, .int .u8 0, .slice none 0 0, .bool false, .string ⟨#[]⟩, .int .i64 0, .int .i64 0, .int .i64 0, .string ⟨#[]⟩] 41 (0, 0))
theorem Rz.below {w w' : World} {g : Nat} (h : Rz w g) (hb : Below w.heap.size w w') : Rz w' g := by
  unfold Rz
  rw [hb.block _ (Array.getElem?_eq_some_iff.1 h).1]; exact h
def nilF : Value := .agg #[.int .i64 2, .int .i64 0, .string ⟨#[]⟩]
set_option maxRecDepth 100000 in
theorem zWrite {w : World} {g : Nat} {ch : ByteArray} (h : Rz w g) : Calls Tryz.prog 14 #[.pointer (some ⟨g, 0, none⟩), .string ch] w fun e w' => e = .returned nilF ∧ Below w.heap.size w w' := by
  have hlt : g < w.heap.size := (Array.getElem?_eq_some_iff.1 h).1
  have c0 : w.cell? ⟨g, 0, none⟩ = some (.bool false) := (Lib.cell_of_heap h 0).trans rfl
  have hne : ¬ (g = w.heap.size) := by omega
  go_enter Tryz.func14, Tryz.ntmps14
  go_wp2
  refine bodyPost_ret (v := nilF) (by rw [jresults_cell rfl]; simp only [nilF]; go_simp) rfl ⟨rfl, (Below.refl _ _).alloc (Nat.le_refl _) _⟩
set_option maxRecDepth 100000 in
theorem zClose {w : World} {g : Nat} (h : Rz w g) : Calls Tryz.prog 16 #[.pointer (some ⟨g, 0, none⟩)] w fun e w' => e = .returned nilF ∧ Below w.heap.size w w' := by
  have hlt : g < w.heap.size := (Array.getElem?_eq_some_iff.1 h).1
  have c0 : w.cell? ⟨g, 0, none⟩ = some (.bool false) := (Lib.cell_of_heap h 0).trans rfl
  have hne : ¬ (g = w.heap.size) := by omega
  go_enter Tryz.func16, Tryz.ntmps16
  go_wp2
  refine bodyPost_ret (v := nilF) (by rw [jresults_cell rfl]; simp only [nilF]; go_simp) rfl ⟨rfl, (Below.refl _ _).alloc (Nat.le_refl _) _⟩
theorem zLen {w : World} {g : Nat} (h : Rz w g) : Calls Tryz.prog 18 #[.pointer (some ⟨g, 0, none⟩)] w fun e w' => e = .returned (.int .i64 0) ∧ w' = w := by
  have c0 : w.cell? ⟨g, 12, none⟩ = some (.int .i64 0) := (Lib.cell_of_heap h 12).trans rfl
  go_enter Tryz.func18, Tryz.ntmps18
  go_wp2
  go_ret
  exact ⟨rfl, rfl⟩
theorem zDepth {w : World} {g : Nat} (h : Rz w g) : Calls Tryz.prog 20 #[.pointer (some ⟨g, 0, none⟩)] w fun e w' => e = .returned (.int .i64 0) ∧ w' = w := by
  have c0 : w.cell? ⟨g, 2, none⟩ = some (.string ⟨#[]⟩) := (Lib.cell_of_heap h 2).trans rfl
  go_enter Tryz.func20, Tryz.ntmps20
  go_wp2
  go_ret
  exact ⟨rfl, rfl⟩
theorem jIs {w : World} {a : Nat → Addr} (hS : Snt w a) : Calls Tryz.prog 30 #[erV a 2, .int .i64 2] w fun e w' => e = .returned (.bool true) ∧ Below w.heap.size w w' := by
  have C := hide (hcode_any hS (errIs_snt hS (m := 1) (by omega)))
  rw [hcB_dec, if_pos (by omega)] at C
  have e0 : erV a 2 = .iface 128 (.pointer (some (a 1))) := rfl
  rw [e0]
  clear hS e0
  go_enter Tryz.func30, Tryz.ntmps30
  go_wp2_with fail
  refine C.out.mono ?_
  rintro e w1 ⟨rfl, hb⟩
  replace hb := hide hb
  go_wp2
  go_ret
  exact ⟨rfl, hb.out⟩
theorem zfits {w : World} {a : Nat → Addr} (hS : Snt w a) : Calls Tryz.prog 12 #[erV a 2, nilF] w fun e w' => e = .returned (.bool true) ∧ Below w.heap.size w w' := by
  have HB := hide ((Below.refl w.heap.size w).alloc (Nat.le_refl _) (.cells #[.int .i64 2, .int .i64 0, .string ⟨#[]⟩] 39))
  have C := hide (jIs (hS.below HB.out))
  simp only [nilF]
  clear hS
  go_enter Tryz.func12, Tryz.ntmps12
  go_wp2_with fail
  refine C.out.mono ?_
  rintro e w1 ⟨rfl, hb⟩
  have HB2 := hide (HB.out.trans (hb.mono HB.out.size))
  clear hb
  go_wp2
  go_ret
  exact ⟨rfl, HB2.out⟩
set_option maxRecDepth 100000 in
set_option maxHeartbeats 4000000 in
theorem ndoes {w : World} {a : Nat → Addr} {tv : Value} {bp rg : Nat} {kd on : Int} {ch : ByteArray} (hm : Ms w tv) (hr : Rz w rg) (hbk : w.heap[bp]? = some (.cells #[tv, .pointer (some ⟨rg, 0, none⟩)] 28 (0, 0))) (hS : Snt w a) :
    Calls Tryz.prog 8 #[.pointer (some ⟨bp, 0, none⟩), .agg #[.int .i64 kd, .int .i64 on, .string ch]] w fun e w' => e = .returned (.bool true) ∧ Below w.heap.size w w' := by
  obtain ⟨W, hW⟩ : ∃ W, w.alloc (.cells #[.int .i64 kd, .int .i64 on, .string ch] 31) = W := ⟨_, rfl⟩
  have HB : Below w.heap.size w W := hW ▸ (Below.refl w.heap.size w).alloc (Nat.le_refl _) _
  have hnew : W.heap[w.heap.size]? = some (.cells #[.int .i64 kd, .int .i64 on, .string ch] 31 (0, 0)) := hW ▸ heap_alloc_new w _
  have c0 : W.cell? ⟨w.heap.size, 0, none⟩ = some (.int .i64 kd) := (Lib.cell_of_heap hnew 0).trans rfl
  have CC : ∀ u, Below W.heap.size W u → (u.cell? ⟨bp, 0, none⟩ = some tv ∧ u.cell? ⟨bp, 1, none⟩ = some (.pointer (some ⟨rg, 0, none⟩)) ∧ u.cell? ⟨w.heap.size, 2, none⟩ = some (.string ch)) := fun u hu => by
    have hb1 := hbk
    rw [← HB.block _ (Array.getElem?_eq_some_iff.1 hb1).1] at hb1
    rw [← hu.block _ (Array.getElem?_eq_some_iff.1 hb1).1] at hb1
    have hb2 := hnew
    rw [← hu.block _ (Array.getElem?_eq_some_iff.1 hb2).1] at hb2
    exact ⟨(Lib.cell_of_heap hb1 0).trans rfl, (Lib.cell_of_heap hb1 1).trans rfl, (Lib.cell_of_heap hb2 2).trans rfl⟩
  have S1 := hide (fun (u : World) (hu : Below W.heap.size W u) => ((hS.below HB).below hu))
  have M1 := hide (fun (u : World) (hu : Below W.heap.size W u) => ((hm.below HB).below hu))
  have R1 := hide (fun (u : World) (hu : Below W.heap.size W u) => ((hr.below HB).below hu))
  have HW' := hide (show ∀ u, Below W.heap.size W u → Calls Tryz.prog 13 #[tv, .string ch] u fun e w' => e = .returned (erV a 2) ∧ Below u.heap.size u w' from
    fun u hu => (mWrite (M1.out u hu) (S1.out u hu)).mono fun e w' ⟨h1, h2⟩ => ⟨h1, h2 ▸ Below.refl _ _⟩)
  have HC' := hide (show ∀ u, Below W.heap.size W u → Calls Tryz.prog 15 #[tv] u fun e w' => e = .returned (erV a 2) ∧ Below u.heap.size u w' from
    fun u hu => (mClose (M1.out u hu) (S1.out u hu)).mono fun e w' ⟨h1, h2⟩ => ⟨h1, h2 ▸ Below.refl _ _⟩)
  have HL' := hide (show ∀ u, Below W.heap.size W u → Calls Tryz.prog 17 #[tv] u fun e w' => e = .returned (.int .i64 0) ∧ Below u.heap.size u w' from
    fun u hu => (mLen (M1.out u hu)).mono fun e w' ⟨h1, h2⟩ => ⟨h1, h2 ▸ Below.refl _ _⟩)
  have HD' := hide (show ∀ u, Below W.heap.size W u → Calls Tryz.prog 19 #[tv] u fun e w' => e = .returned (.int .i64 0) ∧ Below u.heap.size u w' from
    fun u hu => (mDepth (M1.out u hu)).mono fun e w' ⟨h1, h2⟩ => ⟨h1, h2 ▸ Below.refl _ _⟩)
  have ZW := hide (show ∀ u, Below W.heap.size W u → _ from fun u hu => zWrite (ch := ch) (R1.out u hu))
  have ZC := hide (show ∀ u, Below W.heap.size W u → _ from fun u hu => zClose (R1.out u hu))
  have ZL := hide (show ∀ u, Below W.heap.size W u → Calls Tryz.prog 18 #[.pointer (some ⟨rg, 0, none⟩)] u fun e w' => e = .returned (.int .i64 0) ∧ Below u.heap.size u w' from
    fun u hu => (zLen (R1.out u hu)).mono fun e w' ⟨h1, h2⟩ => ⟨h1, h2 ▸ Below.refl _ _⟩)
  have ZD := hide (show ∀ u, Below W.heap.size W u → Calls Tryz.prog 20 #[.pointer (some ⟨rg, 0, none⟩)] u fun e w' => e = .returned (.int .i64 0) ∧ Below u.heap.size u w' from
    fun u hu => (zDepth (R1.out u hu)).mono fun e w' ⟨h1, h2⟩ => ⟨h1, h2 ▸ Below.refl _ _⟩)
  have ZF := hide (show ∀ u, Below W.heap.size W u → _ from fun u hu => zfits (S1.out u hu))
  have K : Below W.heap.size W W.drew := (Below.refl _ _).drew
  have HBB := hide HB
  clear hm hr hbk hS HB hnew S1 M1 R1
  have CD : ∀ u, Below W.heap.size W u → (u.cell? ⟨bp, 0, none⟩ = some tv ∧ u.cell? ⟨bp, 1, none⟩ = some (.pointer (some ⟨rg, 0, none⟩))) := fun u hu => ⟨(CC u hu).1, (CC u hu).2.1⟩
  by_cases k1 : kd = 1
  · subst k1
    go_enter Tryz.func8, Tryz.ntmps8
    go_wp2
    go_region_held3 (fun u => u.cell? ⟨bp, 0, none⟩ = some tv ∧ u.cell? ⟨bp, 1, none⟩ = some (.pointer (some ⟨rg, 0, none⟩)) ∧ u.cell? ⟨w.heap.size, 2, none⟩ = some (.string ch)) (with_reducible exact CC _ K)
      (first
        | (go_at_call 13; (refine (HW'.out _ K).mono ?_); rintro e w2 ⟨rfl, hb2⟩; replace K := K.trans (hb2.mono K.size))
        | (go_at_call 14; (refine (ZW.out _ K).mono ?_); rintro e w2 ⟨rfl, hb2⟩; replace K := K.trans (hb2.mono K.size))
        | (go_at_call 12; (refine (ZF.out _ K).mono ?_); rintro e w2 ⟨rfl, hb2⟩; replace K := K.trans (hb2.mono K.size)))
    have KZ := hide (HBB.out.trans (K.mono HBB.out.size))
    clear CC CD K
    go_wp2
    go_ret
    exact ⟨rfl, KZ.out⟩
  by_cases k2 : kd = 2
  · subst k2
    go_enter Tryz.func8, Tryz.ntmps8
    go_wp2
    go_region_held3 (fun u => u.cell? ⟨bp, 0, none⟩ = some tv ∧ u.cell? ⟨bp, 1, none⟩ = some (.pointer (some ⟨rg, 0, none⟩))) (with_reducible exact CD _ K)
      (first
        | (go_at_call 15; (refine (HC'.out _ K).mono ?_); rintro e w2 ⟨rfl, hb2⟩; replace K := K.trans (hb2.mono K.size))
        | (go_at_call 16; (refine (ZC.out _ K).mono ?_); rintro e w2 ⟨rfl, hb2⟩; replace K := K.trans (hb2.mono K.size))
        | (go_at_call 12; (refine (ZF.out _ K).mono ?_); rintro e w2 ⟨rfl, hb2⟩; replace K := K.trans (hb2.mono K.size)))
    have KZ := hide (HBB.out.trans (K.mono HBB.out.size))
    clear CC CD K
    go_wp2
    go_ret
    exact ⟨rfl, KZ.out⟩
  by_cases k3 : kd = 3
  · subst k3
    go_enter Tryz.func8, Tryz.ntmps8
    go_wp2
    go_region_held3 (fun u => u.cell? ⟨bp, 0, none⟩ = some tv ∧ u.cell? ⟨bp, 1, none⟩ = some (.pointer (some ⟨rg, 0, none⟩))) (with_reducible exact CD _ K)
      (first
        | (go_at_call 17; (refine (HL'.out _ K).mono ?_); rintro e w2 ⟨rfl, hb2⟩; replace K := K.trans (hb2.mono K.size))
        | (go_at_call 18; (refine (ZL.out _ K).mono ?_); rintro e w2 ⟨rfl, hb2⟩; replace K := K.trans (hb2.mono K.size)))
    have KZ := hide (HBB.out.trans (K.mono HBB.out.size))
    clear CC CD K
    go_wp2
    go_ret
    exact ⟨rfl, KZ.out⟩
  by_cases k4 : kd = 4
  · subst k4
    go_enter Tryz.func8, Tryz.ntmps8
    go_wp2
    go_region_held3 (fun u => u.cell? ⟨bp, 0, none⟩ = some tv ∧ u.cell? ⟨bp, 1, none⟩ = some (.pointer (some ⟨rg, 0, none⟩))) (with_reducible exact CD _ K)
      (first
        | (go_at_call 19; (refine (HD'.out _ K).mono ?_); rintro e w2 ⟨rfl, hb2⟩; replace K := K.trans (hb2.mono K.size))
        | (go_at_call 20; (refine (ZD.out _ K).mono ?_); rintro e w2 ⟨rfl, hb2⟩; replace K := K.trans (hb2.mono K.size)))
    have KZ := hide (HBB.out.trans (K.mono HBB.out.size))
    clear CC CD K
    go_wp2
    go_ret
    exact ⟨rfl, KZ.out⟩
  clear CC CD K
  go_enter Tryz.func8, Tryz.ntmps8
  go_wp2
  go_ret
  exact ⟨rfl, HBB.out⟩
/-- a place with a scanner that is not there -/
structure Bz (w : World) (bp : Nat) : Prop where
  ex : ∃ tv rg, Ms w tv ∧ Rz w rg ∧ w.heap[bp]? = some (.cells #[tv, .pointer (some ⟨rg, 0, none⟩)] 28 (0, 0))
theorem Bz.below {w w' : World} {bp : Nat} (h : Bz w bp) (hb : Below w.heap.size w w') : Bz w' bp := by
  obtain ⟨tv, rg, h1, h2, h3⟩ := h.ex
  exact ⟨tv, rg, h1.below hb, h2.below hb, by rw [hb.block _ (Array.getElem?_eq_some_iff.1 h3).1]; exact h3⟩
theorem bdoes {w : World} {a : Nat → Addr} {bp : Nat} {kd on : Int} {ch : ByteArray} (h : Bz w bp) (hS : Snt w a) :
    Calls Tryz.prog 8 #[.pointer (some ⟨bp, 0, none⟩), .agg #[.int .i64 kd, .int .i64 on, .string ch]] w fun e w' => e = .returned (.bool true) ∧ Below w.heap.size w w' := by
  obtain ⟨tv, rg, h1, h2, h3⟩ := h.ex
  exact ndoes h1 h2 h3 hS
theorem ball {w : World} {a : Nat → Addr} {bp : Nat} (h : Bz w bp) (hS : Snt w a) :
    Calls Tryz.prog 9 #[.pointer (some ⟨bp, 0, none⟩)] w fun e w' => e = .returned (.bool true) ∧ Below w.heap.size w w' := by
  have HC := hide (show ∀ u, Below w.heap.size w u → ∀ kd : Int, Calls Tryz.prog 8 #[.pointer (some ⟨bp, 0, none⟩), .agg #[.int .i64 kd, .int .i64 0, .string ⟨#[]⟩]] u fun e w' => e = .returned (.bool true) ∧ Below u.heap.size u w' from
    fun u hu kd => bdoes (h.below hu) (hS.below hu))
  clear h hS
  go_enter Tryz.func9, Tryz.ntmps9
  go_wp2_with fail
  refine (HC.out w (Below.refl _ _) 2).mono ?_
  rintro e w1 ⟨rfl, hb⟩
  have B1 := hide hb
  clear hb
  go_wp2_with fail
  refine (HC.out w1 B1.out 3).mono ?_
  rintro e w2 ⟨rfl, hb⟩
  have B2 := hide (B1.out.trans (hb.mono B1.out.size))
  clear hb B1
  go_wp2_with fail
  refine (HC.out w2 B2.out 4).mono ?_
  rintro e w3 ⟨rfl, hb⟩
  have B3 := hide (B2.out.trans (hb.mono B2.out.size))
  clear hb B2
  go_wp2_with fail
  refine (HC.out w3 B3.out 1).mono ?_
  rintro e w4 ⟨rfl, hb⟩
  have B4 := hide (B3.out.trans (hb.mono B3.out.size))
  clear hb B3
  go_wp2_with fail
  refine (HC.out w4 B4.out 2).mono ?_
  rintro e w5 ⟨rfl, hb⟩
  have B5 := hide (B4.out.trans (hb.mono B4.out.size))
  clear hb B4
  go_wp2
  go_ret
  exact ⟨rfl, B5.out⟩
/-- the world in which the places stand -/
def zW (w : World) (kd on : Int) (ch : ByteArray) : World :=
  (((((w.alloc (.cells #[.int .i64 kd, .int .i64 on, .string ch] 31)).alloc (.cells #[.bool false, .int .i64 0, .string ⟨#[]⟩, .int .i64 0, .int .i64 0, .int .i64 0, .int .i64 0, .int .u8 0, .int .u8 0, .slice none 0 0, .bool false, .string ⟨#[]⟩, .int .i64 0, .int .i64 0, .int .i64 0, .string ⟨#[]⟩] 41)).alloc (.cells #[.pointer none, .pointer (some ⟨w.heap.size + 1, 0, none⟩)] 28)).alloc (.cells #[.pointer none, .nilFunc, .int .i64 0, .slice none 0 0, .bool false, .nilIface, .string ⟨#[]⟩, .bool false, .string ⟨#[]⟩, .int .i64 0, .bool false] 50)).alloc (.cells #[.bool false, .int .i64 0, .string ⟨#[]⟩, .int .i64 0, .int .i64 0, .int .i64 0, .int .i64 0, .int .u8 0, .int .u8 0, .slice none 0 0, .bool false, .string ⟨#[]⟩, .int .i64 0, .int .i64 0, .int .i64 0, .string ⟨#[]⟩] 41)).alloc (.cells #[.pointer (some ⟨w.heap.size + 1 + 1 + 1, 0, none⟩), .pointer (some ⟨w.heap.size + 1 + 1 + 1 + 1, 0, none⟩)] 28)
theorem zW_at (w : World) (kd on : Int) (ch : ByteArray) :
    Below w.heap.size w (zW w kd on ch) ∧ (zW w kd on ch).heap[w.heap.size]? = some (.cells #[.int .i64 kd, .int .i64 on, .string ch] 31) ∧ Bz (zW w kd on ch) (w.heap.size + 1 + 1) ∧ Bz (zW w kd on ch) (w.heap.size + 1 + 1 + 1 + 1 + 1) := by
  have hsz : (zW w kd on ch).heap.size = w.heap.size + 6 := by simp [zW]
  have g0 : (zW w kd on ch).heap[w.heap.size]? = some (.cells #[.int .i64 kd, .int .i64 on, .string ch] 31) := by
    unfold zW
    rw [Below.heap_alloc _ _ _ (by simp <;> omega)]
    rw [Below.heap_alloc _ _ _ (by simp <;> omega)]
    rw [Below.heap_alloc _ _ _ (by simp <;> omega)]
    rw [Below.heap_alloc _ _ _ (by simp <;> omega)]
    rw [Below.heap_alloc _ _ _ (by simp <;> omega)]
    exact new_at (by simp)
  have g1 : (zW w kd on ch).heap[w.heap.size + 1]? = some (.cells #[.bool false, .int .i64 0, .string ⟨#[]⟩, .int .i64 0, .int .i64 0, .int .i64 0, .int .i64 0, .int .u8 0, .int .u8 0, .slice none 0 0, .bool false, .string ⟨#[]⟩, .int .i64 0, .int .i64 0, .int .i64 0, .string ⟨#[]⟩] 41) := by
    unfold zW
    rw [Below.heap_alloc _ _ _ (by simp <;> omega)]
    rw [Below.heap_alloc _ _ _ (by simp <;> omega)]
    rw [Below.heap_alloc _ _ _ (by simp <;> omega)]
    rw [Below.heap_alloc _ _ _ (by simp <;> omega)]
    exact new_at (by simp)
  have g2 : (zW w kd on ch).heap[w.heap.size + 1 + 1]? = some (.cells #[.pointer none, .pointer (some ⟨w.heap.size + 1, 0, none⟩)] 28) := by
    unfold zW
    rw [Below.heap_alloc _ _ _ (by simp <;> omega)]
    rw [Below.heap_alloc _ _ _ (by simp <;> omega)]
    rw [Below.heap_alloc _ _ _ (by simp <;> omega)]
    exact new_at (by simp)
  have g3 : (zW w kd on ch).heap[w.heap.size + 1 + 1 + 1]? = some (.cells #[.pointer none, .nilFunc, .int .i64 0, .slice none 0 0, .bool false, .nilIface, .string ⟨#[]⟩, .bool false, .string ⟨#[]⟩, .int .i64 0, .bool false] 50) := by
    unfold zW
    rw [Below.heap_alloc _ _ _ (by simp <;> omega)]
    rw [Below.heap_alloc _ _ _ (by simp <;> omega)]
    exact new_at (by simp)
  have g4 : (zW w kd on ch).heap[w.heap.size + 1 + 1 + 1 + 1]? = some (.cells #[.bool false, .int .i64 0, .string ⟨#[]⟩, .int .i64 0, .int .i64 0, .int .i64 0, .int .i64 0, .int .u8 0, .int .u8 0, .slice none 0 0, .bool false, .string ⟨#[]⟩, .int .i64 0, .int .i64 0, .int .i64 0, .string ⟨#[]⟩] 41) := by
    unfold zW
    rw [Below.heap_alloc _ _ _ (by simp <;> omega)]
    exact new_at (by simp)
  have g5 : (zW w kd on ch).heap[w.heap.size + 1 + 1 + 1 + 1 + 1]? = some (.cells #[.pointer (some ⟨w.heap.size + 1 + 1 + 1, 0, none⟩), .pointer (some ⟨w.heap.size + 1 + 1 + 1 + 1, 0, none⟩)] 28) := by
    unfold zW
    exact new_at (by simp)
  refine ⟨?_, g0, ⟨_, _, Or.inl rfl, g1, g2⟩, ⟨_, _, Or.inr ⟨_, rfl, (Lib.cell_of_heap g3 0).trans rfl, by omega⟩, g4, g5⟩⟩
  unfold zW
  exact ((((((Below.refl w.heap.size w).alloc (by simp) _).alloc (by simp) _).alloc (by simp; omega) _).alloc (by simp; omega) _).alloc (by simp; omega) _).alloc (by simp; omega) _
set_option maxRecDepth 100000 in
set_option maxHeartbeats 4000000 in
theorem jnone {w : World} {a : Nat → Addr} {kd on : Int} {ch : ByteArray} (hS : Snt w a) (hH : Hnd w) :
    Calls Tryz.prog 4 #[.agg #[.int .i64 kd, .int .i64 on, .string ch]] w fun e w' => e = .returned (.bool true) ∧ Below w.heap.size w w' := by
  have HS := hide hS
  have HH := hide hH
  have HZ := hide (zW_at w kd on ch)
  clear hS hH
  go_enter Tryz.func4, Tryz.ntmps4
  go_wp2_with fail
  obtain ⟨Z, hZ⟩ : ∃ Z, zW w kd on ch = Z := ⟨_, rfl⟩
  rw [hZ] at HZ
  simp only [zW] at hZ
  rw [hZ]
  clear hZ
  obtain ⟨z1, z2, z3, z4⟩ := HZ.out
  have B0 := hide z1
  have P1 := hide z3
  have P2 := hide z4
  have HO := hide z2
  clear z1 z2 z3 z4 HZ
  obtain ⟨b1, hb1⟩ : ∃ b1, w.heap.size + 1 + 1 = b1 := ⟨_, rfl⟩
  obtain ⟨b2, hb2⟩ : ∃ b2, w.heap.size + 1 + 1 + 1 + 1 + 1 = b2 := ⟨_, rfl⟩
  rw [hb2, hb1]
  rw [hb1] at P1
  rw [hb2] at P2
  clear hb1 hb2
  have C1 := hide (bdoes (kd := kd) (on := on) (ch := ch) P1.out (HS.out.below B0.out))
  refine C1.out.mono ?_
  rintro e w1 ⟨rfl, hb⟩
  have hob := HO.out
  rw [← hb.block _ (Array.getElem?_eq_some_iff.1 hob).1] at hob
  have c0 : w1.cell? ⟨w.heap.size, 0, none⟩ = some (.int .i64 kd) := (Lib.cell_of_heap hob 0).trans rfl
  have c1 : w1.cell? ⟨w.heap.size, 1, none⟩ = some (.int .i64 on) := (Lib.cell_of_heap hob 1).trans rfl
  have c2 : w1.cell? ⟨w.heap.size, 2, none⟩ = some (.string ch) := (Lib.cell_of_heap hob 2).trans rfl
  have B1 := hide (B0.out.trans (hb.mono B0.out.size))
  have Q1 := hide (P1.out.below hb)
  have Q2 := hide (P2.out.below hb)
  have C2 := hide (bdoes (kd := kd) (on := on) (ch := ch) Q2.out (HS.out.below B1.out))
  clear hb hob C1 P1 P2 B0
  go_wp2_with fail
  refine C2.out.mono ?_
  rintro e w2 ⟨rfl, hb⟩
  have B2 := hide (B1.out.trans (hb.mono B1.out.size))
  have R1 := hide (Q1.out.below hb)
  have R2 := hide (Q2.out.below hb)
  have C3 := hide (ball R1.out (HS.out.below B2.out))
  clear hb C2 Q1 Q2 B1 c0 c1 c2
  go_wp2_with fail
  refine C3.out.mono ?_
  rintro e w3 ⟨rfl, hb⟩
  have B3 := hide (B2.out.trans (hb.mono B2.out.size))
  have C4 := hide (ball (R2.out.below hb) (HS.out.below B3.out))
  clear hb C3 R1 R2 B2
  go_wp2_with fail
  refine C4.out.mono ?_
  rintro e w4 ⟨rfl, hb⟩
  have B4 := hide (B3.out.trans (hb.mono B3.out.size))
  have C5 := hide (jlives (HS.out.below B4.out) (HH.out.below B4.out))
  clear hb C4 B3
  go_wp2_with fail
  refine C5.out.mono ?_
  rintro e w5 ⟨rfl, hb⟩
  have B5 := hide (B4.out.trans (hb.mono B4.out.size))
  clear hb C5 B4
  go_wp2
  go_ret
  exact ⟨rfl, B5.out⟩

end Go.Proofs.YtefmlajndillbaaGreatDoor
