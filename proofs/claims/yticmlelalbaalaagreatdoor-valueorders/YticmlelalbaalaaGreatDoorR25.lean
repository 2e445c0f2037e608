/- VTm, VTw, VTx, NSaI, VSm, VLf -/
import Derived.Test.YticmlelalbaalaaGreatDoorR24
import Derived.Test.YticmlelalbaalaaGreatDoorR08
import Derived.Test.YticmlelalbaalaaGreatDoorR22
import Derived.Test.YticmlelalbaalaaGreatDoorR19
namespace Go.Proofs.YticmlelalbaalaaGreatDoor
open Go.RowKit
set_option linter.unusedVariables false

theorem cells8T {u : World} {b : Nat} {a0 a1 a2 a3 a4 a5 a6 a7 : Value} {t : TypeId} (h : u.heap[b]? = some (.cells #[a0, a1, a2, a3, a4, a5, a6, a7] t (0, 0))) :
    u.cell? ⟨b, 0, none⟩ = some a0 ∧ u.cell? ⟨b, 1, none⟩ = some a1 ∧ u.cell? ⟨b, 2, none⟩ = some a2 ∧ u.cell? ⟨b, 3, none⟩ = some a3 ∧ u.cell? ⟨b, 4, none⟩ = some a4 ∧ u.cell? ⟨b, 5, none⟩ = some a5 ∧ u.cell? ⟨b, 6, none⟩ = some a6 ∧ u.cell? ⟨b, 7, none⟩ = some a7 ∧
    u.frozen? ⟨b, 0, none⟩ = false ∧ u.frozen? ⟨b, 1, none⟩ = false ∧ u.frozen? ⟨b, 2, none⟩ = false ∧ u.frozen? ⟨b, 3, none⟩ = false ∧ u.frozen? ⟨b, 4, none⟩ = false ∧ u.frozen? ⟨b, 5, none⟩ = false ∧ u.frozen? ⟨b, 6, none⟩ = false ∧ u.frozen? ⟨b, 7, none⟩ = false := by
  refine ⟨?_, ?_, ?_, ?_, ?_, ?_, ?_, ?_, ?_, ?_, ?_, ?_, ?_, ?_, ?_, ?_⟩ <;> simp [World.cell?, World.frozen?, h]
theorem results_cellT {fn : Func} {p : Tmp} {ty : TypeId} (h : fn.results = #[.cell p ty]) (tmps : Array Value) (P : Program) (w : World) :
    (results fn tmps).run P w = ((asAddr (tmps.getD p undef)).run P w).andThen fun a w₁ => (loadVar ty a).run P w₁ := by
  simp only [results, h]
  simp [Sem.run_bind, Result.andThen]
/-- eight cells written, from a place on -/
def put8 (w : World) (b o : Nat) (v0 v1 v2 v3 v4 v5 v6 v7 : Value) : World := (((((((w.setCell ⟨b, o, none⟩ v0).setCell ⟨b, o + 1, none⟩ v1).setCell ⟨b, o + 2, none⟩ v2).setCell ⟨b, o + 3, none⟩ v3).setCell ⟨b, o + 4, none⟩ v4).setCell ⟨b, o + 5, none⟩ v5).setCell ⟨b, o + 6, none⟩ v6).setCell ⟨b, o + 7, none⟩ v7
theorem put8_below {B b o : Nat} {w w4 : World} {v0 v1 v2 v3 v4 v5 v6 v7 : Value} (h : Below B w w4) (hb : B ≤ b) : Below B w (put8 w4 b o v0 v1 v2 v3 v4 v5 v6 v7) :=
  (((((((h.setCell (p := ⟨b, _, none⟩) hb v0).setCell (p := ⟨b, _, none⟩) hb v1).setCell (p := ⟨b, _, none⟩) hb v2).setCell (p := ⟨b, _, none⟩) hb v3).setCell (p := ⟨b, _, none⟩) hb v4).setCell (p := ⟨b, _, none⟩) hb v5).setCell (p := ⟨b, _, none⟩) hb v6).setCell (p := ⟨b, _, none⟩) hb v7
theorem set1_sameT {w : World} {b o : Nat} {v : Value} {j : Nat} (h : j ≠ b) : (w.setCell ⟨b, o, none⟩ v).heap[j]? = w.heap[j]? := Below.heap_setCell w ⟨b, o, none⟩ v j h
theorem put8_same {W : World} {b o : Nat} {v0 v1 v2 v3 v4 v5 v6 v7 : Value} {j : Nat} (h : j ≠ b) : (put8 W b o v0 v1 v2 v3 v4 v5 v6 v7).heap[j]? = W.heap[j]? := by
  unfold put8
  rw [set1_sameT h, set1_sameT h, set1_sameT h, set1_sameT h, set1_sameT h, set1_sameT h, set1_sameT h, set1_sameT h]
theorem own_same {w w' : World} {B b : Nat} {e : TypeId} {s n : Nat} {v : Value} {xs : List Value} (h : w.ownsRow B e s v n xs) (hb : b < B) (hs : ∀ j, j ≠ b → w'.heap[j]? = w.heap[j]?) : w'.ownsRow B e s v n xs := by
  obtain ⟨h0, h1 | ⟨g, cap, cur, rfl, h2, h3, h4⟩⟩ := h
  · exact ⟨h0, .inl h1⟩
  · exact ⟨h0, .inr ⟨g, cap, cur, rfl, h2, (hs g (by omega)).trans h3, h4⟩⟩
theorem twin_same {w w' : World} {B b : Nat} {v : Value} {xs : List Int} (h : Twin B w v xs) (hb : b < B) (hs : ∀ j, j ≠ b → w'.heap[j]? = w.heap[j]?) : Twin B w' v xs := by
  obtain ⟨g, h1, h2, h3, h4⟩ := h
  exact ⟨g, h1, h2, h3, (hs g (by omega)).trans h4⟩
theorem VaTl.same {w w' : World} {B b : Nat} {v : Value} {xs : List Va} (h : VaTl B w v xs) (hb : b < B) (hs : ∀ j, j ≠ b → w'.heap[j]? = w.heap[j]?) : VaTl B w' v xs := by
  induction h with
  | mk g zs hB hl ho hm hk ih => exact .mk g zs hB hl (own_same ho hb hs) (fun q hq => ⟨twin_same (hm q hq).1 hb hs, (hm q hq).2⟩) ih
theorem flat_set8 (q : Va × Value × Value) : ∀ (zs : List (Va × Value × Value)) (i : Nat), i < zs.length → ∀ a0 a1 a2 a3 a4 a5 a6 a7, vaL q.1 q.2.1 q.2.2 = [a0, a1, a2, a3, a4, a5, a6, a7] →
    ((((((((flatV zs).set (i * 8) a0).set (i * 8 + 1) a1).set (i * 8 + 2) a2).set (i * 8 + 3) a3).set (i * 8 + 4) a4).set (i * 8 + 5) a5).set (i * 8 + 6) a6).set (i * 8 + 7) a7 = flatV (zs.set i q)
  | [], i, h, _, _, _, _, _, _, _, _, _ => by simp at h
  | p :: zs, 0, h, a0, a1, a2, a3, a4, a5, a6, a7, e => by
    rw [List.set_cons_zero, flatV_cons, flatV_cons, e]
    rfl
  | p :: zs, i + 1, h, a0, a1, a2, a3, a4, a5, a6, a7, e => by
    have ih := flat_set8 q zs i (by simpa using h) a0 a1 a2 a3 a4 a5 a6 a7 e
    have hs : ∀ (l : List Value) (j : Nat) (u : Value), (vaL p.1 p.2.1 p.2.2 ++ l).set (j + 8) u = vaL p.1 p.2.1 p.2.2 ++ l.set j u := fun l j u => by
      rw [List.set_append_right _ _ (by simp [vaL])]
      simp [vaL]
    rw [List.set_cons_succ, flatV_cons, flatV_cons, ← ih]
    rw [show (i + 1) * 8 = i * 8 + 8 by omega]
    rw [show i * 8 + 8 + 1 = i * 8 + 1 + 8 by omega, show i * 8 + 8 + 2 = i * 8 + 2 + 8 by omega, show i * 8 + 8 + 3 = i * 8 + 3 + 8 by omega, show i * 8 + 8 + 4 = i * 8 + 4 + 8 by omega, show i * 8 + 8 + 5 = i * 8 + 5 + 8 by omega, show i * 8 + 8 + 6 = i * 8 + 6 + 8 by omega, show i * 8 + 8 + 7 = i * 8 + 7 + 8 by omega]
    rw [hs, hs, hs, hs, hs, hs, hs, hs]
theorem own_put8 {w : World} {B g n cap : Nat} {zs : List (Va × Value × Value)} (h : w.ownsRow B 31 8 (.slice (some ⟨g, 0, none⟩) n cap) n (flatV zs)) {i : Nat} (hi : i < zs.length) (q : Va × Value × Value) {a0 a1 a2 a3 a4 a5 a6 a7 : Value} (e : vaL q.1 q.2.1 q.2.2 = [a0, a1, a2, a3, a4, a5, a6, a7]) :
    (put8 w g (i * 8) a0 a1 a2 a3 a4 a5 a6 a7).ownsRow B 31 8 (.slice (some ⟨g, 0, none⟩) n cap) n (flatV (zs.set i q)) := by
  rw [← flat_set8 q zs i hi a0 a1 a2 a3 a4 a5 a6 a7 e]
  exact (((((((((h.stored _ a0).1.stored _ a1).1.stored _ a2).1.stored _ a3).1.stored _ a4).1.stored _ a5).1.stored _ a6).1).stored _ a7).1
theorem own_c8 {w : World} {B g n cap : Nat} {zs : List (Va × Value × Value)} (h : w.ownsRow B 31 8 (.slice (some ⟨g, 0, none⟩) n cap) n (flatV zs)) {i : Nat} (hi : i < zs.length) : VaC w g (i * 8) zs[i].1 zs[i].2.1 zs[i].2.2 := by
  have hn : n * 8 = zs.length * 8 := by have := h.1; rw [flatV_len] at this; omega
  have hc := fun j (hj : j < 8) => (h.cellAt (i * 8 + j) (by omega)).trans (flatV_at zs i hi j hj)
  exact ⟨(hc 0 (by omega)).trans rfl, (hc 1 (by omega)).trans rfl, (hc 2 (by omega)).trans rfl, (hc 3 (by omega)).trans rfl, (hc 4 (by omega)).trans rfl, (hc 5 (by omega)).trans rfl, (hc 6 (by omega)).trans rfl, (hc 7 (by omega)).trans rfl⟩
theorem flat_noughts (n : Nat) : (madeCells #[.int .i8 0, .int .u64 0, .bool false, .slice none 0 0, .int .u64 0, .int .i8 0, .string ⟨#[]⟩, .slice none 0 0] (n * 8)).toList = flatV (List.replicate n noQ) := by
  apply List.ext_getElem?
  intro k
  by_cases hk : k < n * 8
  · have e : k = k / 8 * 8 + k % 8 := by omega
    have hi : k / 8 < (List.replicate n noQ).length := by simp; omega
    have h1 := flatV_at (List.replicate n noQ) (k / 8) hi (k % 8) (by omega)
    rw [← e] at h1
    rw [h1, List.getElem_replicate]
    simp only [madeCells, Array.toList_map, Array.toList_range, List.getElem?_map, List.getElem?_range hk, Option.map_some]
    have hm : k % 8 < 8 := by omega
    generalize k % 8 = m at *
    match m, hm with
    | 0, _ => rfl
    | 1, _ => rfl
    | 2, _ => rfl
    | 3, _ => rfl
    | 4, _ => rfl
    | 5, _ => rfl
    | 6, _ => rfl
    | 7, _ => rfl
  · have h1 : (flatV (List.replicate n noQ)).length ≤ k := by rw [flatV_len, List.length_replicate]; omega
    rw [List.getElem?_eq_none h1, List.getElem?_eq_none (by simp [madeCells]; omega)]

end Go.Proofs.YticmlelalbaalaaGreatDoor

namespace Go.Proofs.YticmlelalbaalaaGreatDoor
open Go.RowKit
set_option linter.unusedVariables false
set_option linter.unusedSimpArgs false

def TwsOf (xs : List Va) : Prop := ∀ (w : World) (v : Value), VaSl w v xs → Calls Tryz.prog 31 #[v] w fun e w' => (∃ u, e = .returned u ∧ VaTl w.heap.size w' u xs) ∧ Below w.heap.size w w'

set_option maxHeartbeats 16000000 in
set_option maxRecDepth 100000 in
theorem twv_step {x : Va} (hx : x.mag.length ≤ 1048576) (ih : TwsOf x.kids) {w : World} {v : Value} (h : VaRd w v x) :
    Calls Tryz.prog 11 #[v] w fun e w' => (∃ u, e = .returned u ∧ TwV w.heap.size w' u x) ∧ Below w.heap.size w w' := by
  obtain ⟨⟨vm, vk, rfl, hm, hk⟩, hw⟩ := h
  have HM := hide hm
  have HK := hide hk
  obtain ⟨mo, mc, rfl, -⟩ : ∃ ao cap, vm = .slice ao x.mag.length cap ∧ True := by obtain ⟨ao, cap, h, _⟩ := hm; exact ⟨ao, cap, h, trivial⟩
  obtain ⟨ko, kc, rfl, -⟩ := hk.len
  have HW := hide hw
  unfold TwsOf at ih
  have HI := hide ih
  unfold vaV
  obtain ⟨n1, hn1⟩ : ∃ n, x.mag.length = n := ⟨_, rfl⟩
  obtain ⟨l1, hl1⟩ : ∃ n, x.kids.length = n := ⟨_, rfl⟩
  obtain ⟨tx, htx⟩ : ∃ t, strOfNums x.text = t := ⟨_, rfl⟩
  rw [hn1] at HM hx ⊢
  rw [hl1] at HK ⊢
  rw [htx]
  have HN := hide (And.intro hn1 (And.intro hl1 htx))
  have HL := hide hx
  clear hm hk hw ih hn1 hl1 htx hx
  go_enter Tryz.func11, Tryz.ntmps11
  go_upto_region 1 with fail
  obtain ⟨W1, hW1⟩ : ∃ W1, (w.alloc (.cells #[.int .i8 x.kind, .int .u64 x.n, .bool x.neg, .slice mo n1 mc, .int .u64 x.bits, .int .i8 x.ext, .string tx, .slice ko l1 kc] 31)).alloc (.cells #[.int .i8 0, .int .u64 0, .bool false, .slice none 0 0, .int .u64 0, .int .i8 0, .string ⟨#[]⟩, .slice none 0 0] 31) = W1 := ⟨_, rfl⟩
  have K1 : Hid (Below w.heap.size w W1) := hide (by rw [← hW1]; exact below_trans (bel_new _ _) (bel_new _ _))
  have BX : Hid (Box8 W1 w.heap.size (.int .i8 x.kind) (.int .u64 x.n) (.bool x.neg) (.slice mo n1 mc) (.int .u64 x.bits) (.int .i8 x.ext) (.string tx) (.slice ko l1 kc)) := hide (by rw [← hW1]; exact (box8_new _ _ _ _ _ _ _ _ _ _).below (bel_new _ _) (by simp))
  have HG1 : Hid (W1.heap[w.heap.size + 1]? = some (.cells #[.int .i8 0, .int .u64 0, .bool false, .slice none 0 0, .int .u64 0, .int .i8 0, .string ⟨#[]⟩, .slice none 0 0] 31 (0, 0))) := hide (by
    rw [← hW1]
    have e : w.heap.size + 1 = (w.alloc (.cells #[.int .i8 x.kind, .int .u64 x.n, .bool x.neg, .slice mo n1 mc, .int .u64 x.bits, .int .i8 x.ext, .string tx, .slice ko l1 kc] 31)).heap.size := by simp
    rw [e]
    exact heap_alloc_new _ _)
  have t1 : W1.heap.size = w.heap.size + 2 := by rw [← hW1]; simp
  rw [hW1]
  clear hW1
  have CC : ∀ u : World, Below W1.heap.size W1 u → u.cell? ⟨w.heap.size, 0, none⟩ = some (.int .i8 x.kind) ∧ u.cell? ⟨w.heap.size, 1, none⟩ = some (.int .u64 x.n) ∧ u.cell? ⟨w.heap.size, 2, none⟩ = some (.bool x.neg) ∧ u.cell? ⟨w.heap.size, 3, none⟩ = some (.slice mo n1 mc) ∧ u.cell? ⟨w.heap.size, 4, none⟩ = some (.int .u64 x.bits) ∧ u.cell? ⟨w.heap.size, 5, none⟩ = some (.int .i8 x.ext) ∧ u.cell? ⟨w.heap.size, 6, none⟩ = some (.string tx) ∧ u.cell? ⟨w.heap.size, 7, none⟩ = some (.slice ko l1 kc) := fun u hu => BX.out.below hu (by omega)
  have K : Below W1.heap.size W1 W1.drew := (Below.refl _ _).drew
  have HC0 := CC _ K
  refine wpHl.region (C := fun u => u.cell? ⟨w.heap.size, 0, none⟩ = some (.int .i8 x.kind) ∧ u.cell? ⟨w.heap.size, 1, none⟩ = some (.int .u64 x.n) ∧ u.cell? ⟨w.heap.size, 2, none⟩ = some (.bool x.neg) ∧ u.cell? ⟨w.heap.size, 3, none⟩ = some (.slice mo n1 mc) ∧ u.cell? ⟨w.heap.size, 4, none⟩ = some (.int .u64 x.bits) ∧ u.cell? ⟨w.heap.size, 5, none⟩ = some (.int .i8 x.ext) ∧ u.cell? ⟨w.heap.size, 6, none⟩ = some (.string tx) ∧ u.cell? ⟨w.heap.size, 7, none⟩ = some (.slice ko l1 kc)) (D := fun j => decide (17 ≤ j)) (by kernel_rfl) ?_
  refine wpHl.tk (i := 0) (d := some 3) (v := .pointer (some ⟨w.heap.size, 0, none⟩)) rfl (by kernel_rfl) (by kernel_rfl) (by kernel_rfl) (by kernel_rfl) rfl (fun _ _ _ h => h) (Or.inl ⟨by rfl, ?_⟩) HC0 ?_
  · intro u hC
    go_simp
  simp only [Act.put, List.setIfInBounds_toArray, List.set_cons_zero, List.set_cons_succ]
  refine wpHl.tk (i := 1) (d := some 4) (v := .int .i8 x.kind) rfl (by kernel_rfl) (by kernel_rfl) (by kernel_rfl) (by kernel_rfl) rfl (fun _ _ _ h => h) (Or.inl ⟨by rfl, ?_⟩) HC0 ?_
  · intro u hC
    obtain ⟨z0, z1, z2, z3, z4, z5, z6, z7⟩ := hC
    go_simp
  simp only [Act.put, List.setIfInBounds_toArray, List.set_cons_zero, List.set_cons_succ]
  refine wpHl.tk (i := 2) (d := some 5) (v := .pointer (some ⟨w.heap.size, 1, none⟩)) rfl (by kernel_rfl) (by kernel_rfl) (by kernel_rfl) (by kernel_rfl) rfl (fun _ _ _ h => h) (Or.inl ⟨by rfl, ?_⟩) HC0 ?_
  · intro u hC
    go_simp
  simp only [Act.put, List.setIfInBounds_toArray, List.set_cons_zero, List.set_cons_succ]
  refine wpHl.tk (i := 3) (d := some 6) (v := .int .u64 x.n) rfl (by kernel_rfl) (by kernel_rfl) (by kernel_rfl) (by kernel_rfl) rfl (fun _ _ _ h => h) (Or.inl ⟨by rfl, ?_⟩) HC0 ?_
  · intro u hC
    obtain ⟨z0, z1, z2, z3, z4, z5, z6, z7⟩ := hC
    go_simp
  simp only [Act.put, List.setIfInBounds_toArray, List.set_cons_zero, List.set_cons_succ]
  refine wpHl.tk (i := 4) (d := some 7) (v := .pointer (some ⟨w.heap.size, 2, none⟩)) rfl (by kernel_rfl) (by kernel_rfl) (by kernel_rfl) (by kernel_rfl) rfl (fun _ _ _ h => h) (Or.inl ⟨by rfl, ?_⟩) HC0 ?_
  · intro u hC
    go_simp
  simp only [Act.put, List.setIfInBounds_toArray, List.set_cons_zero, List.set_cons_succ]
  refine wpHl.tk (i := 5) (d := some 8) (v := .agg #[.bool x.neg, .slice mo n1 mc]) rfl (by kernel_rfl) (by kernel_rfl) (by kernel_rfl) (by kernel_rfl) rfl (fun _ _ _ h => h) (Or.inl ⟨by rfl, ?_⟩) HC0 ?_
  · intro u hC
    obtain ⟨z0, z1, z2, z3, z4, z5, z6, z7⟩ := hC
    go_simp
  simp only [Act.put, List.setIfInBounds_toArray, List.set_cons_zero, List.set_cons_succ]
  refine wpHl.tk (i := 7) (d := some 10) (v := .pointer (some ⟨w.heap.size, 4, none⟩)) rfl (by kernel_rfl) (by kernel_rfl) (by kernel_rfl) (by kernel_rfl) rfl (fun _ _ _ h => h) (Or.inl ⟨by rfl, ?_⟩) HC0 ?_
  · intro u hC
    go_simp
  simp only [Act.put, List.setIfInBounds_toArray, List.set_cons_zero, List.set_cons_succ]
  refine wpHl.tk (i := 8) (d := some 11) (v := .int .u64 x.bits) rfl (by kernel_rfl) (by kernel_rfl) (by kernel_rfl) (by kernel_rfl) rfl (fun _ _ _ h => h) (Or.inl ⟨by rfl, ?_⟩) HC0 ?_
  · intro u hC
    obtain ⟨z0, z1, z2, z3, z4, z5, z6, z7⟩ := hC
    go_simp
  simp only [Act.put, List.setIfInBounds_toArray, List.set_cons_zero, List.set_cons_succ]
  refine wpHl.tk (i := 9) (d := some 12) (v := .pointer (some ⟨w.heap.size, 5, none⟩)) rfl (by kernel_rfl) (by kernel_rfl) (by kernel_rfl) (by kernel_rfl) rfl (fun _ _ _ h => h) (Or.inl ⟨by rfl, ?_⟩) HC0 ?_
  · intro u hC
    go_simp
  simp only [Act.put, List.setIfInBounds_toArray, List.set_cons_zero, List.set_cons_succ]
  refine wpHl.tk (i := 10) (d := some 13) (v := .int .i8 x.ext) rfl (by kernel_rfl) (by kernel_rfl) (by kernel_rfl) (by kernel_rfl) rfl (fun _ _ _ h => h) (Or.inl ⟨by rfl, ?_⟩) HC0 ?_
  · intro u hC
    obtain ⟨z0, z1, z2, z3, z4, z5, z6, z7⟩ := hC
    go_simp
  simp only [Act.put, List.setIfInBounds_toArray, List.set_cons_zero, List.set_cons_succ]
  refine wpHl.tk (i := 11) (d := some 14) (v := .pointer (some ⟨w.heap.size, 6, none⟩)) rfl (by kernel_rfl) (by kernel_rfl) (by kernel_rfl) (by kernel_rfl) rfl (fun _ _ _ h => h) (Or.inl ⟨by rfl, ?_⟩) HC0 ?_
  · intro u hC
    go_simp
  simp only [Act.put, List.setIfInBounds_toArray, List.set_cons_zero, List.set_cons_succ]
  refine wpHl.tk (i := 12) (d := some 15) (v := .string tx) rfl (by kernel_rfl) (by kernel_rfl) (by kernel_rfl) (by kernel_rfl) rfl (fun _ _ _ h => h) (Or.inl ⟨by rfl, ?_⟩) HC0 ?_
  · intro u hC
    obtain ⟨z0, z1, z2, z3, z4, z5, z6, z7⟩ := hC
    go_simp
  simp only [Act.put, List.setIfInBounds_toArray, List.set_cons_zero, List.set_cons_succ]
  refine wpHl.tk (i := 13) (d := some 16) (v := .pointer (some ⟨w.heap.size, 7, none⟩)) rfl (by kernel_rfl) (by kernel_rfl) (by kernel_rfl) (by kernel_rfl) rfl (fun _ _ _ h => h) (Or.inl ⟨by rfl, ?_⟩) HC0 ?_
  · intro u hC
    go_simp
  simp only [Act.put, List.setIfInBounds_toArray, List.set_cons_zero, List.set_cons_succ]
  refine wpHl.tk (i := 14) (d := some 17) (v := .slice ko l1 kc) rfl (by kernel_rfl) (by kernel_rfl) (by kernel_rfl) (by kernel_rfl) rfl (fun _ _ _ h => h) (Or.inl ⟨by rfl, ?_⟩) HC0 ?_
  · intro u hC
    obtain ⟨z0, z1, z2, z3, z4, z5, z6, z7⟩ := hC
    go_simp
  simp only [Act.put, List.setIfInBounds_toArray, List.set_cons_zero, List.set_cons_succ]
  refine wpHl.one (i := 6) (by as_aux_lemma => kernel_rfl) rfl (fun K1' hK1 => ?_)
  rw [if_pos (by rfl)]
  refine wp_call_of (f := 30) (args := #[.agg #[.bool x.neg, .slice mo n1 mc]]) (by kernel_rfl) ?_
  with_reducible refine (wtwin_any ((HM.out.below K1.out).below K) (by have := HL.out; have := HN.out.1; omega)).mono ?_
  rintro e u6 ⟨gm, rfl, hT, hb⟩
  have HT := hide (And.intro hT K.size)
  clear hT
  replace K := below_trans K hb
  clear HC0 hb
  have HC0 := CC _ K
  refine hK1 (Act.put _ (some 9) _) _ ⟨fun _ => HC0, ?_⟩
  clear hK1 K1'
  try simp only [Act.put, List.setIfInBounds_toArray, List.set_cons_zero, List.set_cons_succ]
  refine wpHl.one (i := 15) (by as_aux_lemma => kernel_rfl) rfl (fun K1' hK1 => ?_)
  rw [if_pos (by rfl)]
  refine wp_call_of (f := 31) (args := #[.slice ko l1 kc]) (by kernel_rfl) ?_
  with_reducible refine (HI.out _ _ ((HK.out.far K1.out).far K)).mono ?_
  rintro e u15 ⟨⟨vk2, rfl, hS⟩, hb⟩
  obtain ⟨gk, rfl, -, -, -⟩ := hS.shape
  have HS := hide (And.intro hS K.size)
  replace HT := hide (And.intro (HT.out.1.below hb) HT.out.2)
  clear hS
  replace K := below_trans K hb
  clear HC0 hb
  have HC0 := CC _ K
  refine hK1 (Act.put _ (some 18) _) _ ⟨fun _ => HC0, ?_⟩
  clear hK1 K1'
  try simp only [Act.put, List.setIfInBounds_toArray, List.set_cons_zero, List.set_cons_succ]
  refine wpHl.tk (i := 16) (d := some 19) (v := .agg #[.int .i8 x.kind, .int .u64 x.n, .bool x.neg, .slice (some ⟨gm, 0, none⟩) x.mag.length (x.mag.length + 1), .int .u64 x.bits, .int .i8 x.ext, .string tx, .slice (some ⟨gk, 0, none⟩) x.kids.length (x.kids.length + 1)]) rfl (by kernel_rfl) (by kernel_rfl) (by kernel_rfl) (by kernel_rfl) rfl (fun _ _ _ h => h) (Or.inl ⟨by rfl, ?_⟩) HC0 ?_
  · intro u hC
    go_simp
  simp only [Act.put, List.setIfInBounds_toArray, List.set_cons_zero, List.set_cons_succ]
  have hg : u15.heap[w.heap.size + 1]? = some (.cells #[.int .i8 0, .int .u64 0, .bool false, .slice none 0 0, .int .u64 0, .int .i8 0, .string ⟨#[]⟩, .slice none 0 0] 31 (0, 0)) := (K.block _ (by omega)).trans HG1.out
  obtain ⟨c0, c1, c2, c3, c4, c5, c6, c7, f0, f1, f2, f3, f4, f5, f6, f7⟩ := cells8T hg
  refine wpHl.one (i := 17) (by as_aux_lemma => kernel_rfl) rfl (fun K1' hK1 => ?_)
  rw [if_pos (by rfl)]
  go_simp
  refine hK1 _ _ ⟨fun h => absurd h (by decide), ?_⟩
  clear hK1 K1'
  refine wpHl.done (by as_aux_lemma => kernel_rfl) ?_ _
  clear CC HC0
  have KZ := hide (below_trans K1.out K)
  have HT2 := hide (twin_low (twin_same (w' := put8 u15 (w.heap.size + 1) 0 (.int .i8 x.kind) (.int .u64 x.n) (.bool x.neg) (.slice (some ⟨gm, 0, none⟩) x.mag.length (x.mag.length + 1)) (.int .u64 x.bits) (.int .i8 x.ext) (.string tx) (.slice (some ⟨gk, 0, none⟩) x.kids.length (x.kids.length + 1))) HT.out.1 (b := w.heap.size + 1) (by have := HT.out.2; omega) (fun j hj => put8_same hj)) (show w.heap.size ≤ _ by have := HT.out.2; omega))
  have HS2 := hide ((VaTl.same (w' := put8 u15 (w.heap.size + 1) 0 (.int .i8 x.kind) (.int .u64 x.n) (.bool x.neg) (.slice (some ⟨gm, 0, none⟩) x.mag.length (x.mag.length + 1)) (.int .u64 x.bits) (.int .i8 x.ext) (.string tx) (.slice (some ⟨gk, 0, none⟩) x.kids.length (x.kids.length + 1))) HS.out.1 (b := w.heap.size + 1) (by have := HS.out.2; omega) (fun j hj => put8_same hj)).low (show w.heap.size ≤ _ by have := HS.out.2; omega))
  have KQ := hide (put8_below (o := 0) (b := w.heap.size + 1) (v0 := .int .i8 x.kind) (v1 := .int .u64 x.n) (v2 := .bool x.neg) (v3 := .slice (some ⟨gm, 0, none⟩) x.mag.length (x.mag.length + 1)) (v4 := .int .u64 x.bits) (v5 := .int .i8 x.ext) (v6 := .string tx) (v7 := .slice (some ⟨gk, 0, none⟩) x.kids.length (x.kids.length + 1)) KZ.out (show w.heap.size ≤ _ by omega))
  clear HT HS K KZ hg HG1 BX K1 HM HK HI
  go_wp2
  refine bodyPost_ret (v := .agg #[.int .i8 x.kind, .int .u64 x.n, .bool x.neg, .slice (some ⟨gm, 0, none⟩) x.mag.length (x.mag.length + 1), .int .u64 x.bits, .int .i8 x.ext, .string tx, .slice (some ⟨gk, 0, none⟩) x.kids.length (x.kids.length + 1)]) ?_ rfl ?_
  · rw [results_cellT rfl]
    go_simp
  · exact ⟨⟨_, rfl, ⟨⟨_, _, by unfold vaV; rw [HN.out.2.2], HT2.out, HS2.out⟩, HW.out⟩⟩, KQ.out⟩

end Go.Proofs.YticmlelalbaalaaGreatDoor

namespace Go.Proofs.YticmlelalbaalaaGreatDoor
open Go.RowKit
set_option linter.unusedVariables false
set_option linter.unusedSimpArgs false

set_option maxHeartbeats 4000000 in
set_option maxRecDepth 20000 in
theorem mark_va {w : World} : Calls Tryz.prog 63 #[.int .i64 777777] w fun e w' => e = .returned (.agg #[.int .i8 99, .int .u64 777777, .bool false, .slice none 0 0, .int .u64 0, .int .i8 0, .string ⟨#[]⟩, .slice none 0 0]) ∧ Below w.heap.size w w' := by
  go_enter Tryz.func63, Tryz.ntmps63
  go_upto_region 1 with fail
  have hg : (w.alloc (.cells #[.int .i8 0, .int .u64 0, .bool false, .slice none 0 0, .int .u64 0, .int .i8 0, .string ⟨#[]⟩, .slice none 0 0] 31)).heap[w.heap.size]? = some (.cells #[.int .i8 0, .int .u64 0, .bool false, .slice none 0 0, .int .u64 0, .int .i8 0, .string ⟨#[]⟩, .slice none 0 0] 31 (0, 0)) := heap_alloc_new _ _
  have K := hide (bel_new w (.cells #[.int .i8 0, .int .u64 0, .bool false, .slice none 0 0, .int .u64 0, .int .i8 0, .string ⟨#[]⟩, .slice none 0 0] 31))
  generalize w.alloc (.cells #[.int .i8 0, .int .u64 0, .bool false, .slice none 0 0, .int .u64 0, .int .i8 0, .string ⟨#[]⟩, .slice none 0 0] 31) = w1 at *
  obtain ⟨c0, c1, c2, c3, c4, c5, c6, c7, f0, f1, f2, f3, f4, f5, f6, f7⟩ := cells8T hg
  have HQ := hide (put8_below (o := 0) (b := w.heap.size) (v0 := .int .i8 99) (v1 := .int .u64 777777) (v2 := .bool false) (v3 := .slice none 0 0) (v4 := .int .u64 0) (v5 := .int .i8 0) (v6 := .string ⟨#[]⟩) (v7 := .slice none 0 0) K.out (Nat.le_refl _))
  clear hg K
  go_wp2
  refine bodyPost_ret (v := .agg #[.int .i8 99, .int .u64 777777, .bool false, .slice none 0 0, .int .u64 0, .int .i8 0, .string ⟨#[]⟩, .slice none 0 0]) ?_ rfl ?_
  · rw [results_cellT rfl]
    go_simp
  · exact ⟨rfl, HQ.out⟩

theorem set_mid {α : Type} (zs : List α) (q : α) (r : α) (m : Nat) : (zs ++ List.replicate (m + 1) r).set zs.length q = (zs ++ [q]) ++ List.replicate m r := by
  rw [List.set_append_right _ _ (Nat.le_refl _), Nat.sub_self, List.replicate_succ, List.set_cons_zero, List.append_assoc]; rfl

set_option maxHeartbeats 16000000 in
set_option maxRecDepth 100000 in
theorem tws_step {xs : List Va} (hn : xs.length ≤ 1048576) (hm : ∀ x ∈ xs, x.mag.length ≤ 1048576) (ih : ∀ x ∈ xs, TwsOf x.kids) : TwsOf xs := by
  intro w v h
  have H := hide h
  obtain ⟨ao, cap, rfl, -, -⟩ := h.len
  obtain ⟨n, hnn⟩ : ∃ n, xs.length = n := ⟨_, rfl⟩
  rw [hnn] at H hn ⊢
  have HNN := hide hnn
  have HO := hide (And.intro hm ih)
  obtain ⟨M, hM⟩ : ∃ M, n + 1 = M := ⟨_, rfl⟩
  have HM := hide hM
  have q1 : (n : Int) + 1 = (M : Int) := by omega
  have M1 : M ≤ 1048577 := by omega
  clear h hnn hm ih hM
  obtain ⟨i0, hi, hz0, hz1, hz2⟩ := info_va
  go_enter Tryz.func31, Tryz.ntmps31
  go_wp2_with (at_make; refine wpList_make_full _ rfl _ _ 29 rfl w.heap.size 31 i0 _ 8 Tryz.underlying29 hi hz0 hz1 _ _ _ _ M rfl rfl (by omega) (by omega) ?b2 ?b3 (Nat.le_refl _) ?_)
  case b2 => rw [hz2]; omega
  case b3 => unfold maxLen; omega
  intro w1 hown0 hgrow0
  have K0 : Below w.heap.size w w1 := (Below.refl _ _).grown hgrow0 (Nat.le_refl _) (fun k h => by cases h)
  have hown1 : w1.ownsRow w.heap.size 31 8 (.slice (some ⟨w.heap.size, 0, none⟩) M M) M (flatV (List.replicate M noQ)) := by rw [← flat_noughts]; exact hown0
  have HOWN := hide hown1
  have HK0 := hide K0
  clear hgrow0 hown0 hown1 K0 hi hz0 hz1 hz2
  go_wp2
  go_loopw [4] (fun iv wr => ∃ (j : Nat) (zs : List (Va × Value × Value)), j ≤ n ∧ iv = .int .i64 j ∧ Hid (zs.map Prod.fst = xs.take j) ∧ Hid (wr.ownsRow w.heap.size 31 8 (.slice (some ⟨w.heap.size, 0, none⟩) M M) M (flatV (zs ++ List.replicate (M - j) noQ))) ∧ Hid (∀ q, q ∈ zs → (Twin (w.heap.size + 1) wr q.2.1 q.1.mag ∧ VaW q.1) ∧ VaTl (w.heap.size + 1) wr q.2.2 q.1.kids) ∧ Hid (Below w.heap.size w wr)) (fun iv _ => n - (intOf iv).toNat)
  case atStart => exact ⟨0, [], by omega, rfl, hide rfl, hide HOWN.out, hide (fun q h => by cases h), HK0⟩
  case round =>
    clear HOWN HK0
    obtain ⟨j, zs, hj, rfl, HZ, HOW, HT, HB⟩ := hrel
    have hzl : Hid (zs.length = j) := hide (by
      have h := congrArg List.length HZ.out
      rw [List.length_map, List.length_take, HNN.out] at h
      omega)
    have hgt : w.heap.size < wr.heap.size := (HOW.out.lt w.heap.size rfl).2
    by_cases q : j < n
    · have q0 : (j : Int) < (n : Int) := by omega
      have q2 : (j : Int) < (M : Int) := by omega
      have hjx : j < xs.length := by rw [HNN.out]; exact q
      obtain ⟨b2, o2, vm2, vk2, rfl, hb2, cc2, hm2, hk2, hw2⟩ := VaSl.at (H.out.far HB.out) (by rw [HNN.out]) hjx
      have HTK := hide (show xs.take (j + 1) = xs.take j ++ [xs[j]] from List.take_succ_eq_append_getElem hjx)
      have HYM := hide (show xs[j] ∈ xs from List.getElem_mem hjx)
      generalize xs[j] = y at *
      obtain ⟨y0, y1, y2, y3, y4, y5, y6, y7⟩ := cc2
      have RY : Hid (VaRd wr (vaV y vm2 vk2) y) := hide ⟨⟨_, _, rfl, hm2, hk2⟩, hw2⟩
      unfold vaV at RY
      obtain ⟨mo2, mc2, rfl, -⟩ : ∃ ao cap, vm2 = .slice ao y.mag.length cap ∧ True := by obtain ⟨ao, cap, h, _⟩ := hm2; exact ⟨ao, cap, h, trivial⟩
      obtain ⟨ko2, kc2, rfl, -, -⟩ := hk2.len
      obtain ⟨ty, hty⟩ : ∃ t, strOfNums y.text = t := ⟨_, rfl⟩
      rw [hty] at y6 RY
      have HTY := hide hty
      have CALL := hide (twv_step (HO.out.1 y HYM.out) (HO.out.2 y HYM.out) RY.out)
      clear hm2 hk2 hw2 hty RY
      go_wp2_with fail
      with_reducible refine CALL.out.mono ?_
      rintro e w2 ⟨⟨u, rfl, hT⟩, hb⟩
      obtain ⟨⟨vm, vk, rfl, hTm, hTk⟩, hTw⟩ := hT
      clear CALL y0 y1 y2 y3 y4 y5 y6 y7
      have OWN2 := own_far HOW.out hb
      have HB2 := hide (below_trans HB.out hb)
      have HT2 := hide (fun q hq => (show (Twin (w.heap.size + 1) w2 q.2.1 q.1.mag ∧ VaW q.1) ∧ VaTl (w.heap.size + 1) w2 q.2.2 q.1.kids from ⟨⟨(HT.out q hq).1.1.below hb, (HT.out q hq).1.2⟩, (HT.out q hq).2.far hb⟩))
      have HY := hide (show (Twin (w.heap.size + 1) w2 vm y.mag ∧ VaW y) ∧ VaTl (w.heap.size + 1) w2 vk y.kids from ⟨⟨twin_low hTm (by omega), hTw⟩, hTk.low (by omega)⟩)
      obtain ⟨gm, rfl, -, -, -⟩ := hTm
      obtain ⟨gk, rfl, -, -, -⟩ := hTk.shape
      have hz0 := hzl.out
      have hlt : j < (zs ++ List.replicate (M - j) noQ).length := by simp; omega
      have C8 := own_c8 OWN2 hlt
      have he : (zs ++ List.replicate (M - j) noQ)[j] = noQ := by
        rw [List.getElem_append_right (by omega), List.getElem_replicate]
      rw [he] at C8
      obtain ⟨z0, z1, z2, z3, z4, z5, z6, z7⟩ := C8
      have f0 := OWN2.frozenAt (j * 8)
      have f1 := OWN2.frozenAt (j * 8 + 1)
      have f2 := OWN2.frozenAt (j * 8 + 2)
      have f3 := OWN2.frozenAt (j * 8 + 3)
      have f4 := OWN2.frozenAt (j * 8 + 4)
      have f5 := OWN2.frozenAt (j * 8 + 5)
      have f6 := OWN2.frozenAt (j * 8 + 6)
      have f7 := OWN2.frozenAt (j * 8 + 7)
      have ON := hide (own_put8 OWN2 hlt (y, .slice (some ⟨gm, 0, none⟩) y.mag.length (y.mag.length + 1), .slice (some ⟨gk, 0, none⟩) y.kids.length (y.kids.length + 1)) rfl)
      unfold vaV
      have e : (zs ++ List.replicate (M - j) noQ).set j (y, .slice (some ⟨gm, 0, none⟩) y.mag.length (y.mag.length + 1), .slice (some ⟨gk, 0, none⟩) y.kids.length (y.kids.length + 1)) = (zs ++ [(y, .slice (some ⟨gm, 0, none⟩) y.mag.length (y.mag.length + 1), .slice (some ⟨gk, 0, none⟩) y.kids.length (y.kids.length + 1))]) ++ List.replicate (M - (j + 1)) noQ := by
        rw [show M - j = (M - (j + 1)) + 1 by omega, ← hz0]
        exact set_mid _ _ _ _
      rw [e] at ON
      have KP := hide (put8_below (o := j * 8) (b := w.heap.size) (v0 := .int .i8 y.kind) (v1 := .int .u64 y.n) (v2 := .bool y.neg) (v3 := .slice (some ⟨gm, 0, none⟩) y.mag.length (y.mag.length + 1)) (v4 := .int .u64 y.bits) (v5 := .int .i8 y.ext) (v6 := .string (strOfNums y.text)) (v7 := .slice (some ⟨gk, 0, none⟩) y.kids.length (y.kids.length + 1)) HB2.out (Nat.le_refl _))
      have HTN := hide (fun (q : Va × Value × Value) (hq : q ∈ zs ++ [(y, .slice (some ⟨gm, 0, none⟩) y.mag.length (y.mag.length + 1), .slice (some ⟨gk, 0, none⟩) y.kids.length (y.kids.length + 1))]) => (show (Twin (w.heap.size + 1) (put8 w2 w.heap.size (j * 8) (.int .i8 y.kind) (.int .u64 y.n) (.bool y.neg) (.slice (some ⟨gm, 0, none⟩) y.mag.length (y.mag.length + 1)) (.int .u64 y.bits) (.int .i8 y.ext) (.string (strOfNums y.text)) (.slice (some ⟨gk, 0, none⟩) y.kids.length (y.kids.length + 1))) q.2.1 q.1.mag ∧ VaW q.1) ∧ VaTl (w.heap.size + 1) (put8 w2 w.heap.size (j * 8) (.int .i8 y.kind) (.int .u64 y.n) (.bool y.neg) (.slice (some ⟨gm, 0, none⟩) y.mag.length (y.mag.length + 1)) (.int .u64 y.bits) (.int .i8 y.ext) (.string (strOfNums y.text)) (.slice (some ⟨gk, 0, none⟩) y.kids.length (y.kids.length + 1))) q.2.2 q.1.kids from by
        have hz : (Twin (w.heap.size + 1) w2 q.2.1 q.1.mag ∧ VaW q.1) ∧ VaTl (w.heap.size + 1) w2 q.2.2 q.1.kids := by
          rcases List.mem_append.1 hq with h | h
          · exact HT2.out q h
          · rw [List.mem_singleton] at h
            rw [h]; exact HY.out
        exact ⟨⟨twin_same hz.1.1 (b := w.heap.size) (by omega) (fun i hi => put8_same hi), hz.1.2⟩, hz.2.same (b := w.heap.size) (by omega) (fun i hi => put8_same hi)⟩))
      clear OWN2 hlt he e HOW HB2 HT2 HY hb HT HB hTw hzl hz0
      simp only [noQ, noVa, Va.kind, Va.n, Va.neg, Va.bits, Va.ext, Va.text] at z0 z1 z2 z3 z4 z5 z6 z7
      go_wp2
      go_roundw
      case rel => exact ⟨j + 1, _, by omega, by go_num, hide (by rw [List.map_append, HZ.out, HTK.out]; rfl), ON, HTN, KP⟩
      case measure => simp [intOf]; omega
    · have q0 : ¬ (j : Int) < (n : Int) := by omega
      obtain rfl : j = n := by omega
      have hzx : Hid (zs.map Prod.fst = xs) := hide (by rw [HZ.out, ← HNN.out, List.take_length])
      go_wp2_with fail
      with_reducible refine mark_va.mono ?_
      rintro e w2 ⟨rfl, hb⟩
      have OWN2 := own_far HOW.out hb
      have HB2 := hide (below_trans HB.out hb)
      have HT2 := hide (fun q hq => (show (Twin (w.heap.size + 1) w2 q.2.1 q.1.mag ∧ VaW q.1) ∧ VaTl (w.heap.size + 1) w2 q.2.2 q.1.kids from ⟨⟨(HT.out q hq).1.1.below hb, (HT.out q hq).1.2⟩, (HT.out q hq).2.far hb⟩))
      have hz0 := hzl.out
      have hMj := HM.out
      have hlt : j < (zs ++ List.replicate (M - j) noQ).length := by simp; omega
      have C8 := own_c8 OWN2 hlt
      have he : (zs ++ List.replicate (M - j) noQ)[j] = noQ := by
        rw [List.getElem_append_right (by omega), List.getElem_replicate]
      rw [he] at C8
      obtain ⟨z0, z1, z2, z3, z4, z5, z6, z7⟩ := C8
      have f0 := OWN2.frozenAt (j * 8)
      have f1 := OWN2.frozenAt (j * 8 + 1)
      have f2 := OWN2.frozenAt (j * 8 + 2)
      have f3 := OWN2.frozenAt (j * 8 + 3)
      have f4 := OWN2.frozenAt (j * 8 + 4)
      have f5 := OWN2.frozenAt (j * 8 + 5)
      have f6 := OWN2.frozenAt (j * 8 + 6)
      have f7 := OWN2.frozenAt (j * 8 + 7)
      have ON := hide (own_put8 OWN2 hlt mkQ rfl)
      have e : (zs ++ List.replicate (M - j) noQ).set j mkQ = zs ++ [mkQ] := by
        rw [show M - j = 0 + 1 by omega, ← hz0, set_mid, List.replicate_zero, List.append_nil]
      rw [e] at ON
      have KP := hide (put8_below (o := j * 8) (b := w.heap.size) (v0 := .int .i8 99) (v1 := .int .u64 777777) (v2 := .bool false) (v3 := .slice none 0 0) (v4 := .int .u64 0) (v5 := .int .i8 0) (v6 := .string ⟨#[]⟩) (v7 := .slice none 0 0) HB2.out (Nat.le_refl _))
      have RES := hide (show VaTl w.heap.size (put8 w2 w.heap.size (j * 8) (.int .i8 99) (.int .u64 777777) (.bool false) (.slice none 0 0) (.int .u64 0) (.int .i8 0) (.string ⟨#[]⟩) (.slice none 0 0)) (.slice (some ⟨w.heap.size, 0, none⟩) j M) xs from by
        have key := VaTl.mk (B := w.heap.size) w.heap.size zs (Nat.le_refl _) (by omega) (by rw [show zs.length + 1 = M by omega]; exact ON.out) (fun q hq => ⟨twin_low (twin_same (HT2.out q hq).1.1 (b := w.heap.size) (by omega) (fun i hi => put8_same hi)) (by omega), (HT2.out q hq).1.2⟩) (fun q hq => ((HT2.out q hq).2.same (b := w.heap.size) (by omega) (fun i hi => put8_same hi)).low (by omega))
        rw [hzx.out, hz0, hMj] at key
        exact key)
      have q3 : (j : Int) < (M : Int) := by omega
      have q4 : (j : Int) ≤ (M : Int) := by omega
      clear OWN2 hlt he e HOW HB2 HT2 hb HT HB hzl hz0 hMj ON
      simp only [noQ, noVa, Va.kind, Va.n, Va.neg, Va.bits, Va.ext, Va.text] at z0 z1 z2 z3 z4 z5 z6 z7
      go_wp2
      go_ret
      exact ⟨⟨_, rfl, RES.out⟩, KP.out⟩

theorem tws_size : ∀ (N : Nat) (xs : List Va), SizeOf.sizeOf xs ≤ N → kpts xs ≤ 1048576 → TwsOf xs
  | 0, xs, h, _ => by cases xs <;> simp at h
  | N + 1, xs, h, hp => by
    refine tws_step (Nat.le_trans (kpts_len xs) hp) (fun x hx => ?_) (fun x hx => ?_)
    · have h1 := kpts_mem hx
      have h2 := vpts_eq x
      omega
    · have h1 := kpts_mem hx
      have h2 := vpts_eq x
      refine tws_size N x.kids ?_ (by omega)
      have h3 := List.sizeOf_lt_of_mem hx
      have h4 : SizeOf.sizeOf x.kids < SizeOf.sizeOf x := by
        cases x
        simp only [Va.kids, Va.mk.sizeOf_spec]
        omega
      omega
theorem tws_any {xs : List Va} (h : kpts xs ≤ 1048576) : TwsOf xs := tws_size _ xs (Nat.le_refl _) h
/-- a value's twin -/
theorem twv_any {w : World} {v : Value} {x : Va} (hp : vpts x ≤ 1048576) (h : VaRd w v x) :
    Calls Tryz.prog 11 #[v] w fun e w' => (∃ u, e = .returned u ∧ TwV w.heap.size w' u x) ∧ Below w.heap.size w w' := by
  have h2 := vpts_eq x
  exact twv_step (by omega) (tws_any (by omega)) h

end Go.Proofs.YticmlelalbaalaaGreatDoor

namespace Go.Proofs.YticmlelalbaalaaGreatDoor
open Go.RowKit
set_option linter.unusedVariables false

/-- limbs that are their numbers' own: the same just if the numbers are -/
theorem canon_one {xs ys : List Int} (hx : Nt.Canon xs) (hy : Nt.Canon ys) : xs = ys ↔ Nt.val xs = Nt.val ys := ⟨fun h => by rw [h], fun h => Nt.canon_unique hx hy h⟩

set_option maxHeartbeats 4000000 in
theorem sameint_any {w : World} {g1 g2 : Bool} {m1 m2 : Value} {xs ys : List Int} (h1 : Reads .u32 w m1 xs) (h2 : Reads .u32 w m2 ys) : Calls Tryz.prog 59 #[.agg #[.bool g1, m1], .agg #[.bool g2, m2]] w fun e' w' => e' = .returned (.bool (g1 == g2 && decide (xs = ys))) ∧ Below w.heap.size w w' := by
  have H1 := hide h1
  have H2 := hide h2
  obtain ⟨o1, c1, rfl, -⟩ := h1
  obtain ⟨o2, c2, rfl, -⟩ := h2
  generalize hx : xs.length = l1 at *
  generalize hy : ys.length = l2 at *
  clear hx hy
  by_cases hg : g1 = g2
  · subst hg
    have hgg : (g1 == g1) = true := by simp
    have HE := hide (show (g1 == g1 && decide (xs = ys)) = decide (xs = ys) by rw [hgg, Bool.true_and])
    go_enter Tryz.func59, Tryz.ntmps59
    go_wp2_with fail
    have K1 := bel_new w (.cells #[.bool g1, .slice o1 l1 c1] 28)
    have K2 := bel_new (w.alloc (.cells #[.bool g1, .slice o1 l1 c1] 28)) (.cells #[.bool g1, .slice o2 l2 c2] 28)
    have KK := hide (below_trans K1 K2)
    clear K1 K2
    with_reducible refine (same_any (H1.out.below KK.out) (H2.out.below KK.out)).mono ?_
    rintro e w2 ⟨rfl, K3⟩
    have KZ := hide (below_trans KK.out K3)
    clear K3
    go_wp2
    go_ret
    exact ⟨by rw [HE.out]; rfl, KZ.out⟩
  · have hgg : (g1 == g2) = false := by simp [hg]
    have HE := hide (show (g1 == g2 && decide (xs = ys)) = false by rw [hgg, Bool.false_and])
    go_enter Tryz.func59, Tryz.ntmps59
    go_wp2
    go_ret
    exact ⟨by rw [HE.out]; rfl, (bel_new _ _).alloc (by simp) _⟩

set_option maxHeartbeats 4000000 in
theorem samevals_nil {w : World} {o1 o2 : Option Addr} {c1 c2 : Nat} : Calls Tryz.prog 60 #[.slice o1 0 c1, .slice o2 0 c2] w fun e' w' => e' = .returned (.bool true) ∧ w' = w := by
  go_enter Tryz.func60, Tryz.ntmps60
  go_wp2
  go_loopw [5] (fun i wr => i = .int .i64 0 ∧ wr = w) (fun _ _ => 0)
  case atStart => exact ⟨rfl, rfl⟩
  case round =>
    obtain ⟨rfl, rfl⟩ := hrel
    go_wp2
    go_ret
    exact ⟨rfl, rfl⟩

end Go.Proofs.YticmlelalbaalaaGreatDoor

namespace Go.Proofs.YticmlelalbaalaaGreatDoor
open Go.RowKit
set_option linter.unusedVariables false
set_option linter.unusedSimpArgs false

theorem sint_self {w : World} {g : Bool} {m1 m2 : Value} {xs : List Int} (h1 : Reads .u32 w m1 xs) (h2 : Reads .u32 w m2 xs) : Calls Tryz.prog 59 #[.agg #[.bool g, m1], .agg #[.bool g, m2]] w fun e' w' => e' = .returned (.bool true) ∧ Below w.heap.size w w' :=
  (sameint_any h1 h2).mono fun e w' h => ⟨h.1.trans (by simp), h.2⟩
def SmsOf (xs : List Va) : Prop := ∀ (w : World) (u v : Value), VaSl w u xs → VaSl w v xs → Calls Tryz.prog 60 #[u, v] w fun e w' => e = .returned (.bool true) ∧ Below w.heap.size w w'
def SmOf (x : Va) : Prop := ∀ (w : World) (u v : Value), VaRd w u x → VaRd w v x → Calls Tryz.prog 23 #[u, v] w fun e w' => e = .returned (.bool true) ∧ Below w.heap.size w w'

set_option maxHeartbeats 16000000 in
set_option maxRecDepth 100000 in
theorem smv_step {x : Va} (ih : SmsOf x.kids) : SmOf x := by
  intro w u v hu hv
  unfold SmsOf at ih
  have HI := hide ih
  obtain ⟨⟨tm, tk, rfl, hT, hS⟩, hw⟩ := hu
  obtain ⟨⟨vm, vk, rfl, hm, hk⟩, -⟩ := hv
  have HT := hide hT
  have HS := hide hS
  have HM := hide hm
  have HK := hide hk
  obtain ⟨mo1, mc1, rfl, -⟩ : ∃ ao cap, tm = .slice ao x.mag.length cap ∧ True := by obtain ⟨ao, cap, h, _⟩ := hT; exact ⟨ao, cap, h, trivial⟩
  obtain ⟨ko1, kc1, rfl, -⟩ := hS.len
  obtain ⟨mo2, mc2, rfl, -⟩ : ∃ ao cap, vm = .slice ao x.mag.length cap ∧ True := by obtain ⟨ao, cap, h, _⟩ := hm; exact ⟨ao, cap, h, trivial⟩
  obtain ⟨ko2, kc2, rfl, -⟩ := hk.len
  unfold vaV
  obtain ⟨n1, hn1⟩ : ∃ n, x.mag.length = n := ⟨_, rfl⟩
  obtain ⟨l1, hl1⟩ : ∃ n, x.kids.length = n := ⟨_, rfl⟩
  obtain ⟨tx, htx⟩ : ∃ t, strOfNums x.text = t := ⟨_, rfl⟩
  rw [hn1] at HT HM ⊢
  rw [hl1] at HS HK ⊢
  rw [htx]
  clear hS hw hm hk hT ih hn1 hl1 htx
  have K1 := hide (below_trans (bel_new w (.cells #[.int .i8 x.kind, .int .u64 x.n, .bool x.neg, .slice mo1 n1 mc1, .int .u64 x.bits, .int .i8 x.ext, .string tx, .slice ko1 l1 kc1] 31)) (bel_new (w.alloc (.cells #[.int .i8 x.kind, .int .u64 x.n, .bool x.neg, .slice mo1 n1 mc1, .int .u64 x.bits, .int .i8 x.ext, .string tx, .slice ko1 l1 kc1] 31)) (.cells #[.int .i8 x.kind, .int .u64 x.n, .bool x.neg, .slice mo2 n1 mc2, .int .u64 x.bits, .int .i8 x.ext, .string tx, .slice ko2 l1 kc2] 31)))
  have BT := hide ((box8_new w (.int .i8 x.kind) (.int .u64 x.n) (.bool x.neg) (.slice mo1 n1 mc1) (.int .u64 x.bits) (.int .i8 x.ext) (.string tx) (.slice ko1 l1 kc1) 31).below (bel_new (w.alloc (.cells #[.int .i8 x.kind, .int .u64 x.n, .bool x.neg, .slice mo1 n1 mc1, .int .u64 x.bits, .int .i8 x.ext, .string tx, .slice ko1 l1 kc1] 31)) (.cells #[.int .i8 x.kind, .int .u64 x.n, .bool x.neg, .slice mo2 n1 mc2, .int .u64 x.bits, .int .i8 x.ext, .string tx, .slice ko2 l1 kc2] 31)) (by simp))
  have BV := hide (box8_new (w.alloc (.cells #[.int .i8 x.kind, .int .u64 x.n, .bool x.neg, .slice mo1 n1 mc1, .int .u64 x.bits, .int .i8 x.ext, .string tx, .slice ko1 l1 kc1] 31)) (.int .i8 x.kind) (.int .u64 x.n) (.bool x.neg) (.slice mo2 n1 mc2) (.int .u64 x.bits) (.int .i8 x.ext) (.string tx) (.slice ko2 l1 kc2) 31)
  have e1 : (w.alloc (.cells #[.int .i8 x.kind, .int .u64 x.n, .bool x.neg, .slice mo1 n1 mc1, .int .u64 x.bits, .int .i8 x.ext, .string tx, .slice ko1 l1 kc1] 31)).heap.size = w.heap.size + 1 := by simp
  rw [e1] at BV
  go_enter Tryz.func23, Tryz.ntmps23
  go_upto_region 1 with fail
  generalize (w.alloc (.cells #[.int .i8 x.kind, .int .u64 x.n, .bool x.neg, .slice mo1 n1 mc1, .int .u64 x.bits, .int .i8 x.ext, .string tx, .slice ko1 l1 kc1] 31)).alloc (.cells #[.int .i8 x.kind, .int .u64 x.n, .bool x.neg, .slice mo2 n1 mc2, .int .u64 x.bits, .int .i8 x.ext, .string tx, .slice ko2 l1 kc2] 31) = W1 at *
  clear e1
  have lt1 : w.heap.size + 1 < W1.heap.size := vcell_lt BV.out.1
  obtain ⟨y0, y1, y2, y3, y4, y5, y6, y7⟩ := BT.out
  obtain ⟨z0, z1, z2, z3, z4, z5, z6, z7⟩ := BV.out
  have CALL1 := hide (sint_self (g := x.neg) (HT.out.below K1.out) (HM.out.below K1.out))
  go_wp2_with fail
  with_reducible refine CALL1.out.mono ?_
  rintro e w2 ⟨rfl, hb⟩
  have K2 := hide (below_trans K1.out hb)
  have BT2 := hide (BT.out.below hb (by omega))
  have BV2 := hide (BV.out.below hb (by omega))
  clear hb CALL1 y0 y1 y2 y3 y4 y5 y6 y7 z0 z1 z2 z3 z4 z5 z6 z7 BT BV
  obtain ⟨y0, y1, y2, y3, y4, y5, y6, y7⟩ := BT2.out
  obtain ⟨z0, z1, z2, z3, z4, z5, z6, z7⟩ := BV2.out
  have CALL2 := hide (HI.out w2 _ _ (HS.out.far K2.out) (HK.out.far K2.out))
  go_wp2_with fail
  with_reducible refine CALL2.out.mono ?_
  rintro e w3 ⟨rfl, hb⟩
  have K3 := hide (below_trans K2.out hb)
  clear hb CALL2 y0 y1 y2 y3 y4 y5 y6 y7 z0 z1 z2 z3 z4 z5 z6 z7
  go_wp2
  go_ret
  exact ⟨rfl, K3.out⟩

set_option maxHeartbeats 16000000 in
set_option maxRecDepth 100000 in
theorem sms_step {xs : List Va} (ih : ∀ x ∈ xs, SmOf x) : SmsOf xs := by
  intro w u v hu hv
  have HU := hide hu
  have HV := hide hv
  obtain ⟨ao1, cap1, rfl, hc1, hcm1⟩ := hu.len
  obtain ⟨ao2, cap2, rfl, hc2, hcm2⟩ := hv.len
  obtain ⟨n, hnn⟩ : ∃ n, xs.length = n := ⟨_, rfl⟩
  rw [hnn] at HU HV hc1 hc2 ⊢
  have HNN := hide hnn
  have HI := hide ih
  clear hu hv hnn ih
  go_enter Tryz.func60, Tryz.ntmps60
  go_wp2
  go_loopw [5] (fun iv wr => ∃ j : Nat, j ≤ n ∧ iv = .int .i64 j ∧ Hid (Below w.heap.size w wr)) (fun iv _ => n - (intOf iv).toNat)
  case atStart => exact ⟨0, by omega, rfl, hide (Below.refl _ _)⟩
  case round =>
    obtain ⟨j, hj, rfl, HB⟩ := hrel
    by_cases q : j < n
    · have q0 : (j : Int) < (n : Int) := by omega
      have hjx : j < xs.length := by rw [HNN.out]; exact q
      obtain ⟨b1, o1, vm1, vk1, rfl, hb1, cc1, hm1, hk1, hw1⟩ := VaSl.at (HU.out.far HB.out) (by rw [HNN.out]) hjx
      obtain ⟨b2, o2, vm2, vk2, rfl, hb2, cc2, hm2, hk2, hw2⟩ := VaSl.at (HV.out.far HB.out) (by rw [HNN.out]) hjx
      have HYM := hide (show xs[j] ∈ xs from List.getElem_mem hjx)
      generalize xs[j] = y at *
      have TW := hide (show VaRd wr (vaV y vm1 vk1) y from ⟨⟨_, _, rfl, hm1, hk1⟩, hw1⟩)
      have RD := hide (show VaRd wr (vaV y vm2 vk2) y from ⟨⟨_, _, rfl, hm2, hk2⟩, hw2⟩)
      have CALL := hide (fun (u : World) (hu : Below wr.heap.size wr u) => HI.out y HYM.out u _ _ (TW.out.far hu) (RD.out.far hu))
      have TC := hide (fun (u : World) (hu : Below wr.heap.size wr u) => cc1.below hu hb1)
      have LC := hide (fun (u : World) (hu : Below wr.heap.size wr u) => cc2.below hu hb2)
      obtain ⟨mo1, mc1, rfl, -⟩ : ∃ ao cap, vm1 = .slice ao y.mag.length cap ∧ True := by obtain ⟨ao, cap, h, _⟩ := hm1; exact ⟨ao, cap, h, trivial⟩
      obtain ⟨ko1, kc1, rfl, -⟩ := hk1.len
      obtain ⟨mo2, mc2, rfl, -⟩ : ∃ ao cap, vm2 = .slice ao y.mag.length cap ∧ True := by obtain ⟨ao, cap, h, _⟩ := hm2; exact ⟨ao, cap, h, trivial⟩
      obtain ⟨ko2, kc2, rfl, -⟩ := hk2.len
      have TC2 := hide (fun (u : World) (hu : Below wr.heap.size wr u) => (show u.cell? ⟨b1, o1 + j * 8, none⟩ = some (.int .i8 y.kind) ∧ u.cell? ⟨b1, o1 + j * 8 + 1, none⟩ = some (.int .u64 y.n) ∧ u.cell? ⟨b1, o1 + j * 8 + 2, none⟩ = some (.bool y.neg) ∧ u.cell? ⟨b1, o1 + j * 8 + 3, none⟩ = some (.slice mo1 y.mag.length mc1) ∧ u.cell? ⟨b1, o1 + j * 8 + 4, none⟩ = some (.int .u64 y.bits) ∧ u.cell? ⟨b1, o1 + j * 8 + 5, none⟩ = some (.int .i8 y.ext) ∧ u.cell? ⟨b1, o1 + j * 8 + 6, none⟩ = some (.string (strOfNums y.text)) ∧ u.cell? ⟨b1, o1 + j * 8 + 7, none⟩ = some (.slice ko1 y.kids.length kc1) ∧ u.cell? ⟨b2, o2 + j * 8, none⟩ = some (.int .i8 y.kind) ∧ u.cell? ⟨b2, o2 + j * 8 + 1, none⟩ = some (.int .u64 y.n) ∧ u.cell? ⟨b2, o2 + j * 8 + 2, none⟩ = some (.bool y.neg) ∧ u.cell? ⟨b2, o2 + j * 8 + 3, none⟩ = some (.slice mo2 y.mag.length mc2) ∧ u.cell? ⟨b2, o2 + j * 8 + 4, none⟩ = some (.int .u64 y.bits) ∧ u.cell? ⟨b2, o2 + j * 8 + 5, none⟩ = some (.int .i8 y.ext) ∧ u.cell? ⟨b2, o2 + j * 8 + 6, none⟩ = some (.string (strOfNums y.text)) ∧ u.cell? ⟨b2, o2 + j * 8 + 7, none⟩ = some (.slice ko2 y.kids.length kc2) from by
        have p := TC.out u hu
        have q := LC.out u hu
        exact ⟨p.c0, p.c1, p.c2, p.c3, p.c4, p.c5, p.c6, p.c7, q.c0, q.c1, q.c2, q.c3, q.c4, q.c5, q.c6, q.c7⟩))
      unfold vaV at CALL
      obtain ⟨n1, hn1⟩ : ∃ n, y.mag.length = n := ⟨_, rfl⟩
      obtain ⟨l1, hl1⟩ : ∃ n, y.kids.length = n := ⟨_, rfl⟩
      obtain ⟨ty, hty⟩ : ∃ t, strOfNums y.text = t := ⟨_, rfl⟩
      rw [hn1, hl1, hty] at CALL TC2
      clear hm1 hk1 hw1 hm2 hk2 hw2 TW RD TC LC cc1 cc2 hn1 hl1 hty
      go_upto_region 6 with fail
      have CC : ∀ u : World, Below wr.heap.size wr u → u.cell? ⟨b1, o1 + j * 8, none⟩ = some (.int .i8 y.kind) ∧ u.cell? ⟨b1, o1 + j * 8 + 1, none⟩ = some (.int .u64 y.n) ∧ u.cell? ⟨b1, o1 + j * 8 + 2, none⟩ = some (.bool y.neg) ∧ u.cell? ⟨b1, o1 + j * 8 + 3, none⟩ = some (.slice mo1 n1 mc1) ∧ u.cell? ⟨b1, o1 + j * 8 + 4, none⟩ = some (.int .u64 y.bits) ∧ u.cell? ⟨b1, o1 + j * 8 + 5, none⟩ = some (.int .i8 y.ext) ∧ u.cell? ⟨b1, o1 + j * 8 + 6, none⟩ = some (.string ty) ∧ u.cell? ⟨b1, o1 + j * 8 + 7, none⟩ = some (.slice ko1 l1 kc1) ∧ u.cell? ⟨b2, o2 + j * 8, none⟩ = some (.int .i8 y.kind) ∧ u.cell? ⟨b2, o2 + j * 8 + 1, none⟩ = some (.int .u64 y.n) ∧ u.cell? ⟨b2, o2 + j * 8 + 2, none⟩ = some (.bool y.neg) ∧ u.cell? ⟨b2, o2 + j * 8 + 3, none⟩ = some (.slice mo2 n1 mc2) ∧ u.cell? ⟨b2, o2 + j * 8 + 4, none⟩ = some (.int .u64 y.bits) ∧ u.cell? ⟨b2, o2 + j * 8 + 5, none⟩ = some (.int .i8 y.ext) ∧ u.cell? ⟨b2, o2 + j * 8 + 6, none⟩ = some (.string ty) ∧ u.cell? ⟨b2, o2 + j * 8 + 7, none⟩ = some (.slice ko2 l1 kc2) := fun u hu => TC2.out u hu
      have K : Below wr.heap.size wr wr.drew := (Below.refl _ _).drew
      have HC0 := CC _ K
      refine wpHl.region0 (C := fun u => u.cell? ⟨b1, o1 + j * 8, none⟩ = some (.int .i8 y.kind) ∧ u.cell? ⟨b1, o1 + j * 8 + 1, none⟩ = some (.int .u64 y.n) ∧ u.cell? ⟨b1, o1 + j * 8 + 2, none⟩ = some (.bool y.neg) ∧ u.cell? ⟨b1, o1 + j * 8 + 3, none⟩ = some (.slice mo1 n1 mc1) ∧ u.cell? ⟨b1, o1 + j * 8 + 4, none⟩ = some (.int .u64 y.bits) ∧ u.cell? ⟨b1, o1 + j * 8 + 5, none⟩ = some (.int .i8 y.ext) ∧ u.cell? ⟨b1, o1 + j * 8 + 6, none⟩ = some (.string ty) ∧ u.cell? ⟨b1, o1 + j * 8 + 7, none⟩ = some (.slice ko1 l1 kc1) ∧ u.cell? ⟨b2, o2 + j * 8, none⟩ = some (.int .i8 y.kind) ∧ u.cell? ⟨b2, o2 + j * 8 + 1, none⟩ = some (.int .u64 y.n) ∧ u.cell? ⟨b2, o2 + j * 8 + 2, none⟩ = some (.bool y.neg) ∧ u.cell? ⟨b2, o2 + j * 8 + 3, none⟩ = some (.slice mo2 n1 mc2) ∧ u.cell? ⟨b2, o2 + j * 8 + 4, none⟩ = some (.int .u64 y.bits) ∧ u.cell? ⟨b2, o2 + j * 8 + 5, none⟩ = some (.int .i8 y.ext) ∧ u.cell? ⟨b2, o2 + j * 8 + 6, none⟩ = some (.string ty) ∧ u.cell? ⟨b2, o2 + j * 8 + 7, none⟩ = some (.slice ko2 l1 kc2)) (by kernel_rfl) (by kernel_rfl) (fun HS => ?_)
      refine wpHl.tk0 (i := 0) (d := some 17) (v := .slice (some ⟨b1, o1, none⟩) n cap1) rfl HS (by as_aux_lemma => kernel_rfl) rfl (fun _ _ _ h => h) (Or.inl ⟨by rfl, ?_⟩) HC0 ?_
      · intro u hC
        go_simp
      simp only [Act.put, List.setIfInBounds_toArray, List.set_cons_zero, List.set_cons_succ]
      refine wpHl.tk0 (i := 1) (d := some 18) (v := .int .i64 j) rfl HS (by as_aux_lemma => kernel_rfl) rfl (fun _ _ _ h => h) (Or.inl ⟨by rfl, ?_⟩) HC0 ?_
      · intro u hC
        go_simp
      simp only [Act.put, List.setIfInBounds_toArray, List.set_cons_zero, List.set_cons_succ]
      refine wpHl.tk0 (i := 2) (d := some 19) (v := .pointer (some ⟨b1, o1 + j * 8, none⟩)) rfl HS (by as_aux_lemma => kernel_rfl) rfl (fun _ _ _ h => h) (Or.inl ⟨by rfl, ?_⟩) HC0 ?_
      · intro u hC
        go_simp
      simp only [Act.put, List.setIfInBounds_toArray, List.set_cons_zero, List.set_cons_succ]
      refine wpHl.tk0 (i := 3) (d := some 20) (v := .agg #[.int .i8 y.kind, .int .u64 y.n, .bool y.neg, .slice mo1 n1 mc1, .int .u64 y.bits, .int .i8 y.ext, .string ty, .slice ko1 l1 kc1]) rfl HS (by as_aux_lemma => kernel_rfl) rfl (fun _ _ _ h => h) (Or.inl ⟨by rfl, ?_⟩) HC0 ?_
      · intro u hC
        obtain ⟨z0, z1, z2, z3, z4, z5, z6, z7, z8, z9, z10, z11, z12, z13, z14, z15⟩ := hC
        go_simp
      simp only [Act.put, List.setIfInBounds_toArray, List.set_cons_zero, List.set_cons_succ]
      refine wpHl.tk0 (i := 4) (d := some 21) (v := .slice (some ⟨b2, o2, none⟩) n cap2) rfl HS (by as_aux_lemma => kernel_rfl) rfl (fun _ _ _ h => h) (Or.inl ⟨by rfl, ?_⟩) HC0 ?_
      · intro u hC
        go_simp
      simp only [Act.put, List.setIfInBounds_toArray, List.set_cons_zero, List.set_cons_succ]
      refine wpHl.tk0 (i := 5) (d := some 22) (v := .int .i64 j) rfl HS (by as_aux_lemma => kernel_rfl) rfl (fun _ _ _ h => h) (Or.inl ⟨by rfl, ?_⟩) HC0 ?_
      · intro u hC
        go_simp
      simp only [Act.put, List.setIfInBounds_toArray, List.set_cons_zero, List.set_cons_succ]
      refine wpHl.tk0 (i := 6) (d := some 23) (v := .pointer (some ⟨b2, o2 + j * 8, none⟩)) rfl HS (by as_aux_lemma => kernel_rfl) rfl (fun _ _ _ h => h) (Or.inl ⟨by rfl, ?_⟩) HC0 ?_
      · intro u hC
        go_simp
      simp only [Act.put, List.setIfInBounds_toArray, List.set_cons_zero, List.set_cons_succ]
      refine wpHl.tk0 (i := 7) (d := some 24) (v := .agg #[.int .i8 y.kind, .int .u64 y.n, .bool y.neg, .slice mo2 n1 mc2, .int .u64 y.bits, .int .i8 y.ext, .string ty, .slice ko2 l1 kc2]) rfl HS (by as_aux_lemma => kernel_rfl) rfl (fun _ _ _ h => h) (Or.inl ⟨by rfl, ?_⟩) HC0 ?_
      · intro u hC
        obtain ⟨z0, z1, z2, z3, z4, z5, z6, z7, z8, z9, z10, z11, z12, z13, z14, z15⟩ := hC
        go_simp
      simp only [Act.put, List.setIfInBounds_toArray, List.set_cons_zero, List.set_cons_succ]
      refine wpHl.one (i := 8) (by as_aux_lemma => kernel_rfl) rfl (fun K1 hK1 => ?_)
      rw [if_pos (by rfl)]
      refine wp_call_of (f := 23) (args := #[.agg #[.int .i8 y.kind, .int .u64 y.n, .bool y.neg, .slice mo1 n1 mc1, .int .u64 y.bits, .int .i8 y.ext, .string ty, .slice ko1 l1 kc1], .agg #[.int .i8 y.kind, .int .u64 y.n, .bool y.neg, .slice mo2 n1 mc2, .int .u64 y.bits, .int .i8 y.ext, .string ty, .slice ko2 l1 kc2]]) (by kernel_rfl) ?_
      with_reducible refine (CALL.out _ K).mono ?_
      rintro e wn ⟨rfl, hb⟩
      replace K := below_trans K hb
      clear HC0
      have HC0 := CC _ K
      refine hK1 (Act.put _ (some 25) _) _ ⟨fun _ => HC0, ?_⟩
      clear hK1 K1 hb
      try simp only [Act.put, List.setIfInBounds_toArray, List.set_cons_zero, List.set_cons_succ]
      refine wpHl.tk0 (i := 9) (d := some 26) (v := .bool false) rfl HS (by as_aux_lemma => kernel_rfl) rfl (fun _ _ _ h => h) (Or.inl ⟨by rfl, ?_⟩) HC0 ?_
      · intro u hC
        go_simp
      simp only [Act.put, List.setIfInBounds_toArray, List.set_cons_zero, List.set_cons_succ]
      refine wpHl.done (by as_aux_lemma => kernel_rfl) ?_ _
      clear CC HC0 HS
      replace HB := hide (below_trans HB.out K)
      clear K CALL TC2
      go_wp2
      go_roundw
      case rel => exact ⟨j + 1, by omega, by go_num, HB⟩
      case measure => simp [intOf]; omega
    · have q0 : ¬ (j : Int) < (n : Int) := by omega
      go_wp2
      go_ret
      exact ⟨rfl, HB.out⟩

theorem smv_size : ∀ (N : Nat) (x : Va), SizeOf.sizeOf x ≤ N → SmOf x
  | 0, x, h => by cases x; simp at h
  | N + 1, x, h => smv_step (sms_step fun y hy => smv_size N y (by
      have h3 := List.sizeOf_lt_of_mem hy
      have h4 : SizeOf.sizeOf x.kids < SizeOf.sizeOf x := by
        cases x
        simp only [Va.kids, Va.mk.sizeOf_spec]
        omega
      omega))
/-- two readings of one value are the same -/
theorem smv_any {x : Va} : SmOf x := smv_size _ x (Nat.le_refl _)

end Go.Proofs.YticmlelalbaalaaGreatDoor

namespace Go.Proofs.YticmlelalbaalaaGreatDoor
open Go.RowKit
set_option linter.unusedVariables false
set_option linter.unusedSimpArgs false

set_option maxHeartbeats 4000000 in
set_option maxRecDepth 20000 in
theorem isva_mark {w : World} : Calls Tryz.prog 100 #[.agg #[.int .i8 99, .int .u64 777777, .bool false, .slice none 0 0, .int .u64 0, .int .i8 0, .string ⟨#[]⟩, .slice none 0 0], .int .i64 777777] w fun e w' => e = .returned (.bool true) ∧ Below w.heap.size w w' := by
  go_enter Tryz.func100, Tryz.ntmps100
  go_wp2
  go_ret
  exact ⟨rfl, bel_new _ _⟩

def LfsOf (xs : List Va) : Prop := ∀ (w : World) (B : Nat) (u v : Value), VaTl B w u xs → VaSl w v xs → Calls Tryz.prog 58 #[u, v] w fun e w' => e = .returned (.bool true) ∧ Below w.heap.size w w'
def LfOf (x : Va) : Prop := ∀ (w : World) (B : Nat) (u v : Value), TwV B w u x → VaRd w v x → Calls Tryz.prog 20 #[u, v] w fun e w' => e = .returned (.bool true) ∧ Below w.heap.size w w'

set_option maxHeartbeats 16000000 in
set_option maxRecDepth 100000 in
theorem lfv_step {x : Va} (ih : LfsOf x.kids) : LfOf x := by
  intro w B u v hu hv
  unfold LfsOf at ih
  have HI := hide ih
  obtain ⟨⟨tm, tk, rfl, hT, hS⟩, hw⟩ := hu
  obtain ⟨⟨vm, vk, rfl, hm, hk⟩, -⟩ := hv
  have HT := hide hT
  have HS := hide hS
  have HM := hide hm
  have HK := hide hk
  obtain ⟨gm, rfl, -, -, -⟩ := hT
  obtain ⟨gk, rfl, -, -, -⟩ := hS.shape
  obtain ⟨mo, mc, rfl, -⟩ : ∃ ao cap, vm = .slice ao x.mag.length cap ∧ True := by obtain ⟨ao, cap, h, _⟩ := hm; exact ⟨ao, cap, h, trivial⟩
  obtain ⟨ko, kc, rfl, -⟩ := hk.len
  unfold vaV
  obtain ⟨n1, hn1⟩ : ∃ n, x.mag.length = n := ⟨_, rfl⟩
  obtain ⟨l1, hl1⟩ : ∃ n, x.kids.length = n := ⟨_, rfl⟩
  obtain ⟨tx, htx⟩ : ∃ t, strOfNums x.text = t := ⟨_, rfl⟩
  rw [hn1] at HT HM ⊢
  rw [hl1] at HS HK ⊢
  rw [htx]
  clear hS hw hm hk ih hn1 hl1 htx
  have K1 := hide (below_trans (bel_new w (.cells #[.int .i8 x.kind, .int .u64 x.n, .bool x.neg, .slice (some ⟨gm, 0, none⟩) n1 (n1 + 1), .int .u64 x.bits, .int .i8 x.ext, .string tx, .slice (some ⟨gk, 0, none⟩) l1 (l1 + 1)] 31)) (bel_new (w.alloc (.cells #[.int .i8 x.kind, .int .u64 x.n, .bool x.neg, .slice (some ⟨gm, 0, none⟩) n1 (n1 + 1), .int .u64 x.bits, .int .i8 x.ext, .string tx, .slice (some ⟨gk, 0, none⟩) l1 (l1 + 1)] 31)) (.cells #[.int .i8 x.kind, .int .u64 x.n, .bool x.neg, .slice mo n1 mc, .int .u64 x.bits, .int .i8 x.ext, .string tx, .slice ko l1 kc] 31)))
  have BT := hide ((box8_new w (.int .i8 x.kind) (.int .u64 x.n) (.bool x.neg) (.slice (some ⟨gm, 0, none⟩) n1 (n1 + 1)) (.int .u64 x.bits) (.int .i8 x.ext) (.string tx) (.slice (some ⟨gk, 0, none⟩) l1 (l1 + 1)) 31).below (bel_new (w.alloc (.cells #[.int .i8 x.kind, .int .u64 x.n, .bool x.neg, .slice (some ⟨gm, 0, none⟩) n1 (n1 + 1), .int .u64 x.bits, .int .i8 x.ext, .string tx, .slice (some ⟨gk, 0, none⟩) l1 (l1 + 1)] 31)) (.cells #[.int .i8 x.kind, .int .u64 x.n, .bool x.neg, .slice mo n1 mc, .int .u64 x.bits, .int .i8 x.ext, .string tx, .slice ko l1 kc] 31)) (by simp))
  have BV := hide (box8_new (w.alloc (.cells #[.int .i8 x.kind, .int .u64 x.n, .bool x.neg, .slice (some ⟨gm, 0, none⟩) n1 (n1 + 1), .int .u64 x.bits, .int .i8 x.ext, .string tx, .slice (some ⟨gk, 0, none⟩) l1 (l1 + 1)] 31)) (.int .i8 x.kind) (.int .u64 x.n) (.bool x.neg) (.slice mo n1 mc) (.int .u64 x.bits) (.int .i8 x.ext) (.string tx) (.slice ko l1 kc) 31)
  have e1 : (w.alloc (.cells #[.int .i8 x.kind, .int .u64 x.n, .bool x.neg, .slice (some ⟨gm, 0, none⟩) n1 (n1 + 1), .int .u64 x.bits, .int .i8 x.ext, .string tx, .slice (some ⟨gk, 0, none⟩) l1 (l1 + 1)] 31)).heap.size = w.heap.size + 1 := by simp
  rw [e1] at BV
  go_enter Tryz.func20, Tryz.ntmps20
  go_upto_region 1 with fail
  generalize (w.alloc (.cells #[.int .i8 x.kind, .int .u64 x.n, .bool x.neg, .slice (some ⟨gm, 0, none⟩) n1 (n1 + 1), .int .u64 x.bits, .int .i8 x.ext, .string tx, .slice (some ⟨gk, 0, none⟩) l1 (l1 + 1)] 31)).alloc (.cells #[.int .i8 x.kind, .int .u64 x.n, .bool x.neg, .slice mo n1 mc, .int .u64 x.bits, .int .i8 x.ext, .string tx, .slice ko l1 kc] 31) = W1 at *
  clear e1
  have lt1 : w.heap.size + 1 < W1.heap.size := vcell_lt BV.out.1
  obtain ⟨y0, y1, y2, y3, y4, y5, y6, y7⟩ := BT.out
  obtain ⟨z0, z1, z2, z3, z4, z5, z6, z7⟩ := BV.out
  have CALL1 := hide (wleft_any (ng := x.neg) (HT.out.below K1.out) (HM.out.below K1.out))
  go_wp2_with fail
  with_reducible refine CALL1.out.mono ?_
  rintro e w2 ⟨rfl, hb⟩
  have K2 := hide (below_trans K1.out hb)
  have BT2 := hide (BT.out.below hb (by omega))
  have BV2 := hide (BV.out.below hb (by omega))
  clear hb CALL1 y0 y1 y2 y3 y4 y5 y6 y7 z0 z1 z2 z3 z4 z5 z6 z7 BT BV
  obtain ⟨y0, y1, y2, y3, y4, y5, y6, y7⟩ := BT2.out
  obtain ⟨z0, z1, z2, z3, z4, z5, z6, z7⟩ := BV2.out
  have CALL2 := hide (HI.out w2 B _ _ (HS.out.far K2.out) (HK.out.far K2.out))
  go_wp2_with fail
  with_reducible refine CALL2.out.mono ?_
  rintro e w3 ⟨rfl, hb⟩
  have K3 := hide (below_trans K2.out hb)
  clear hb CALL2 y0 y1 y2 y3 y4 y5 y6 y7 z0 z1 z2 z3 z4 z5 z6 z7
  go_wp2
  go_ret
  exact ⟨rfl, K3.out⟩

set_option maxHeartbeats 16000000 in
set_option maxRecDepth 100000 in
theorem lfs_step {xs : List Va} (ih : ∀ x ∈ xs, LfOf x) : LfsOf xs := by
  intro w B u v hu hv
  have HU := hide hu
  have HV := hide hv
  obtain ⟨g, rfl, -, hg, hn⟩ := hu.shape
  obtain ⟨ao, cap, rfl, hc, hcm⟩ := hv.len
  have MK := hu.mark rfl
  obtain ⟨n, hnn⟩ : ∃ n, xs.length = n := ⟨_, rfl⟩
  rw [hnn] at HU HV hn hc MK ⊢
  have HNN := hide hnn
  have HI := hide ih
  obtain ⟨m0, m1, m2, m3, m4, m5, m6, m7⟩ := MK
  simp only [mkVa, Va.kind, Va.n, Va.neg, Va.bits, Va.ext, Va.text] at m0 m1 m2 m3 m4 m5 m6 m7
  rw [show strOfNums [] = ⟨#[]⟩ from rfl] at m6
  clear hu hv hnn ih
  obtain ⟨M, hM⟩ : ∃ M, n + 1 = M := ⟨_, rfl⟩
  have q1 : (n : Int) + 1 = (M : Int) := by omega
  have q2 : (n : Int) < (M : Int) := by omega
  have q3 : M ≤ M := Nat.le_refl _
  rw [hM] at HU ⊢
  have HM := hide hM
  clear hM
  go_enter Tryz.func58, Tryz.ntmps58
  go_wp2_with fail
  with_reducible refine isva_mark.mono ?_
  rintro e w1 ⟨rfl, K⟩
  have K1 := hide K
  clear K m0 m1 m2 m3 m4 m5 m6 m7
  go_wp2
  go_loopw [5] (fun iv wr => ∃ j : Nat, j ≤ n ∧ iv = .int .i64 j ∧ Hid (Below w.heap.size w wr)) (fun iv _ => n - (intOf iv).toNat)
  case atStart => exact ⟨0, by omega, rfl, K1⟩
  case round =>
    clear K1
    obtain ⟨j, hj, rfl, HB⟩ := hrel
    by_cases q : j < n
    · have q0 : (j : Int) < (n : Int) := by omega
      have hjx : j < xs.length := by rw [HNN.out]; exact q
      obtain ⟨tm, tk, cT, hTm, hTk, hTw⟩ := (HU.out.far HB.out).at (c := M) (by rw [HNN.out]) hjx
      obtain ⟨b2, o2, vm2, vk2, rfl, hb2, cc2, hm2, hk2, hw2⟩ := VaSl.at (HV.out.far HB.out) (by rw [HNN.out]) hjx
      have HYM := hide (show xs[j] ∈ xs from List.getElem_mem hjx)
      have hgw : g < wr.heap.size := Nat.lt_of_lt_of_le hg HB.out.size
      generalize xs[j] = y at *
      have TW := hide (show TwV B wr (vaV y tm tk) y from ⟨⟨_, _, rfl, hTm, hTk⟩, hTw⟩)
      have RD := hide (show VaRd wr (vaV y vm2 vk2) y from ⟨⟨_, _, rfl, hm2, hk2⟩, hw2⟩)
      have CALL := hide (fun (u : World) (hu : Below wr.heap.size wr u) => HI.out y HYM.out u B _ _ (TW.out.far hu) (RD.out.far hu))
      have TC := hide (fun (u : World) (hu : Below wr.heap.size wr u) => cT.below hu hgw)
      have LC := hide (fun (u : World) (hu : Below wr.heap.size wr u) => cc2.below hu hb2)
      obtain ⟨gm, rfl, -, -, -⟩ := hTm
      obtain ⟨gk, rfl, -, -, -⟩ := hTk.shape
      obtain ⟨mo, mc, rfl, -⟩ : ∃ ao cap, vm2 = .slice ao y.mag.length cap ∧ True := by obtain ⟨ao, cap, h, _⟩ := hm2; exact ⟨ao, cap, h, trivial⟩
      obtain ⟨ko, kc, rfl, -⟩ := hk2.len
      have TC2 := hide (fun (u : World) (hu : Below wr.heap.size wr u) => (show u.cell? ⟨g, j * 8, none⟩ = some (.int .i8 y.kind) ∧ u.cell? ⟨g, j * 8 + 1, none⟩ = some (.int .u64 y.n) ∧ u.cell? ⟨g, j * 8 + 2, none⟩ = some (.bool y.neg) ∧ u.cell? ⟨g, j * 8 + 3, none⟩ = some (.slice (some ⟨gm, 0, none⟩) y.mag.length (y.mag.length + 1)) ∧ u.cell? ⟨g, j * 8 + 4, none⟩ = some (.int .u64 y.bits) ∧ u.cell? ⟨g, j * 8 + 5, none⟩ = some (.int .i8 y.ext) ∧ u.cell? ⟨g, j * 8 + 6, none⟩ = some (.string (strOfNums y.text)) ∧ u.cell? ⟨g, j * 8 + 7, none⟩ = some (.slice (some ⟨gk, 0, none⟩) y.kids.length (y.kids.length + 1)) ∧ u.cell? ⟨b2, o2 + j * 8, none⟩ = some (.int .i8 y.kind) ∧ u.cell? ⟨b2, o2 + j * 8 + 1, none⟩ = some (.int .u64 y.n) ∧ u.cell? ⟨b2, o2 + j * 8 + 2, none⟩ = some (.bool y.neg) ∧ u.cell? ⟨b2, o2 + j * 8 + 3, none⟩ = some (.slice mo y.mag.length mc) ∧ u.cell? ⟨b2, o2 + j * 8 + 4, none⟩ = some (.int .u64 y.bits) ∧ u.cell? ⟨b2, o2 + j * 8 + 5, none⟩ = some (.int .i8 y.ext) ∧ u.cell? ⟨b2, o2 + j * 8 + 6, none⟩ = some (.string (strOfNums y.text)) ∧ u.cell? ⟨b2, o2 + j * 8 + 7, none⟩ = some (.slice ko y.kids.length kc) from by
        have p := TC.out u hu
        have q := LC.out u hu
        exact ⟨p.c0, p.c1, p.c2, p.c3, p.c4, p.c5, p.c6, p.c7, q.c0, q.c1, q.c2, q.c3, q.c4, q.c5, q.c6, q.c7⟩))
      unfold vaV at CALL
      obtain ⟨n1, hn1⟩ : ∃ n, y.mag.length = n := ⟨_, rfl⟩
      obtain ⟨l1, hl1⟩ : ∃ n, y.kids.length = n := ⟨_, rfl⟩
      obtain ⟨ty, hty⟩ : ∃ t, strOfNums y.text = t := ⟨_, rfl⟩
      rw [hn1, hl1, hty] at CALL TC2
      clear hTk hTw hm2 hk2 hw2 TW RD TC LC cT cc2 hn1 hl1 hty
      go_upto_region 6 with fail
      have CC : ∀ u : World, Below wr.heap.size wr u → u.cell? ⟨g, j * 8, none⟩ = some (.int .i8 y.kind) ∧ u.cell? ⟨g, j * 8 + 1, none⟩ = some (.int .u64 y.n) ∧ u.cell? ⟨g, j * 8 + 2, none⟩ = some (.bool y.neg) ∧ u.cell? ⟨g, j * 8 + 3, none⟩ = some (.slice (some ⟨gm, 0, none⟩) n1 (n1 + 1)) ∧ u.cell? ⟨g, j * 8 + 4, none⟩ = some (.int .u64 y.bits) ∧ u.cell? ⟨g, j * 8 + 5, none⟩ = some (.int .i8 y.ext) ∧ u.cell? ⟨g, j * 8 + 6, none⟩ = some (.string ty) ∧ u.cell? ⟨g, j * 8 + 7, none⟩ = some (.slice (some ⟨gk, 0, none⟩) l1 (l1 + 1)) ∧ u.cell? ⟨b2, o2 + j * 8, none⟩ = some (.int .i8 y.kind) ∧ u.cell? ⟨b2, o2 + j * 8 + 1, none⟩ = some (.int .u64 y.n) ∧ u.cell? ⟨b2, o2 + j * 8 + 2, none⟩ = some (.bool y.neg) ∧ u.cell? ⟨b2, o2 + j * 8 + 3, none⟩ = some (.slice mo n1 mc) ∧ u.cell? ⟨b2, o2 + j * 8 + 4, none⟩ = some (.int .u64 y.bits) ∧ u.cell? ⟨b2, o2 + j * 8 + 5, none⟩ = some (.int .i8 y.ext) ∧ u.cell? ⟨b2, o2 + j * 8 + 6, none⟩ = some (.string ty) ∧ u.cell? ⟨b2, o2 + j * 8 + 7, none⟩ = some (.slice ko l1 kc) := fun u hu => TC2.out u hu
      have K : Below wr.heap.size wr wr.drew := (Below.refl _ _).drew
      have HC0 := CC _ K
      refine wpHl.region0 (C := fun u => u.cell? ⟨g, j * 8, none⟩ = some (.int .i8 y.kind) ∧ u.cell? ⟨g, j * 8 + 1, none⟩ = some (.int .u64 y.n) ∧ u.cell? ⟨g, j * 8 + 2, none⟩ = some (.bool y.neg) ∧ u.cell? ⟨g, j * 8 + 3, none⟩ = some (.slice (some ⟨gm, 0, none⟩) n1 (n1 + 1)) ∧ u.cell? ⟨g, j * 8 + 4, none⟩ = some (.int .u64 y.bits) ∧ u.cell? ⟨g, j * 8 + 5, none⟩ = some (.int .i8 y.ext) ∧ u.cell? ⟨g, j * 8 + 6, none⟩ = some (.string ty) ∧ u.cell? ⟨g, j * 8 + 7, none⟩ = some (.slice (some ⟨gk, 0, none⟩) l1 (l1 + 1)) ∧ u.cell? ⟨b2, o2 + j * 8, none⟩ = some (.int .i8 y.kind) ∧ u.cell? ⟨b2, o2 + j * 8 + 1, none⟩ = some (.int .u64 y.n) ∧ u.cell? ⟨b2, o2 + j * 8 + 2, none⟩ = some (.bool y.neg) ∧ u.cell? ⟨b2, o2 + j * 8 + 3, none⟩ = some (.slice mo n1 mc) ∧ u.cell? ⟨b2, o2 + j * 8 + 4, none⟩ = some (.int .u64 y.bits) ∧ u.cell? ⟨b2, o2 + j * 8 + 5, none⟩ = some (.int .i8 y.ext) ∧ u.cell? ⟨b2, o2 + j * 8 + 6, none⟩ = some (.string ty) ∧ u.cell? ⟨b2, o2 + j * 8 + 7, none⟩ = some (.slice ko l1 kc)) (by kernel_rfl) (by kernel_rfl) (fun HS => ?_)
      refine wpHl.tk0 (i := 0) (d := some 30) (v := .slice (some ⟨g, 0, none⟩) n M) rfl HS (by as_aux_lemma => kernel_rfl) rfl (fun _ _ _ h => h) (Or.inl ⟨by rfl, ?_⟩) HC0 ?_
      · intro u hC
        go_simp
      simp only [Act.put, List.setIfInBounds_toArray, List.set_cons_zero, List.set_cons_succ]
      refine wpHl.tk0 (i := 1) (d := some 31) (v := .int .i64 j) rfl HS (by as_aux_lemma => kernel_rfl) rfl (fun _ _ _ h => h) (Or.inl ⟨by rfl, ?_⟩) HC0 ?_
      · intro u hC
        go_simp
      simp only [Act.put, List.setIfInBounds_toArray, List.set_cons_zero, List.set_cons_succ]
      refine wpHl.tk0 (i := 2) (d := some 32) (v := .pointer (some ⟨g, j * 8, none⟩)) rfl HS (by as_aux_lemma => kernel_rfl) rfl (fun _ _ _ h => h) (Or.inl ⟨by rfl, ?_⟩) HC0 ?_
      · intro u hC
        go_simp
      simp only [Act.put, List.setIfInBounds_toArray, List.set_cons_zero, List.set_cons_succ]
      refine wpHl.tk0 (i := 3) (d := some 33) (v := .agg #[.int .i8 y.kind, .int .u64 y.n, .bool y.neg, .slice (some ⟨gm, 0, none⟩) n1 (n1 + 1), .int .u64 y.bits, .int .i8 y.ext, .string ty, .slice (some ⟨gk, 0, none⟩) l1 (l1 + 1)]) rfl HS (by as_aux_lemma => kernel_rfl) rfl (fun _ _ _ h => h) (Or.inl ⟨by rfl, ?_⟩) HC0 ?_
      · intro u hC
        obtain ⟨z0, z1, z2, z3, z4, z5, z6, z7, z8, z9, z10, z11, z12, z13, z14, z15⟩ := hC
        go_simp
      simp only [Act.put, List.setIfInBounds_toArray, List.set_cons_zero, List.set_cons_succ]
      refine wpHl.tk0 (i := 4) (d := some 34) (v := .slice (some ⟨b2, o2, none⟩) n cap) rfl HS (by as_aux_lemma => kernel_rfl) rfl (fun _ _ _ h => h) (Or.inl ⟨by rfl, ?_⟩) HC0 ?_
      · intro u hC
        go_simp
      simp only [Act.put, List.setIfInBounds_toArray, List.set_cons_zero, List.set_cons_succ]
      refine wpHl.tk0 (i := 5) (d := some 35) (v := .int .i64 j) rfl HS (by as_aux_lemma => kernel_rfl) rfl (fun _ _ _ h => h) (Or.inl ⟨by rfl, ?_⟩) HC0 ?_
      · intro u hC
        go_simp
      simp only [Act.put, List.setIfInBounds_toArray, List.set_cons_zero, List.set_cons_succ]
      refine wpHl.tk0 (i := 6) (d := some 36) (v := .pointer (some ⟨b2, o2 + j * 8, none⟩)) rfl HS (by as_aux_lemma => kernel_rfl) rfl (fun _ _ _ h => h) (Or.inl ⟨by rfl, ?_⟩) HC0 ?_
      · intro u hC
        go_simp
      simp only [Act.put, List.setIfInBounds_toArray, List.set_cons_zero, List.set_cons_succ]
      refine wpHl.tk0 (i := 7) (d := some 37) (v := .agg #[.int .i8 y.kind, .int .u64 y.n, .bool y.neg, .slice mo n1 mc, .int .u64 y.bits, .int .i8 y.ext, .string ty, .slice ko l1 kc]) rfl HS (by as_aux_lemma => kernel_rfl) rfl (fun _ _ _ h => h) (Or.inl ⟨by rfl, ?_⟩) HC0 ?_
      · intro u hC
        obtain ⟨z0, z1, z2, z3, z4, z5, z6, z7, z8, z9, z10, z11, z12, z13, z14, z15⟩ := hC
        go_simp
      simp only [Act.put, List.setIfInBounds_toArray, List.set_cons_zero, List.set_cons_succ]
      refine wpHl.one (i := 8) (by as_aux_lemma => kernel_rfl) rfl (fun K1 hK1 => ?_)
      rw [if_pos (by rfl)]
      refine wp_call_of (f := 20) (args := #[.agg #[.int .i8 y.kind, .int .u64 y.n, .bool y.neg, .slice (some ⟨gm, 0, none⟩) n1 (n1 + 1), .int .u64 y.bits, .int .i8 y.ext, .string ty, .slice (some ⟨gk, 0, none⟩) l1 (l1 + 1)], .agg #[.int .i8 y.kind, .int .u64 y.n, .bool y.neg, .slice mo n1 mc, .int .u64 y.bits, .int .i8 y.ext, .string ty, .slice ko l1 kc]]) (by kernel_rfl) ?_
      with_reducible refine (CALL.out _ K).mono ?_
      rintro e wn ⟨rfl, hb⟩
      replace K := below_trans K hb
      clear HC0
      have HC0 := CC _ K
      refine hK1 (Act.put _ (some 38) _) _ ⟨fun _ => HC0, ?_⟩
      clear hK1 K1 hb
      try simp only [Act.put, List.setIfInBounds_toArray, List.set_cons_zero, List.set_cons_succ]
      refine wpHl.tk0 (i := 9) (d := some 39) (v := .bool false) rfl HS (by as_aux_lemma => kernel_rfl) rfl (fun _ _ _ h => h) (Or.inl ⟨by rfl, ?_⟩) HC0 ?_
      · intro u hC
        go_simp
      simp only [Act.put, List.setIfInBounds_toArray, List.set_cons_zero, List.set_cons_succ]
      refine wpHl.done (by as_aux_lemma => kernel_rfl) ?_ _
      clear CC HC0 HS
      replace HB := hide (below_trans HB.out K)
      clear K CALL TC2
      go_wp2
      go_roundw
      case rel => exact ⟨j + 1, by omega, by go_num, HB⟩
      case measure => simp [intOf]; omega
    · have q0 : ¬ (j : Int) < (n : Int) := by omega
      go_wp2
      go_ret
      exact ⟨rfl, HB.out⟩

theorem lfv_size : ∀ (N : Nat) (x : Va), SizeOf.sizeOf x ≤ N → LfOf x
  | 0, x, h => by cases x; simp at h
  | N + 1, x, h => lfv_step (lfs_step fun y hy => lfv_size N y (by
      have h3 := List.sizeOf_lt_of_mem hy
      have h4 : SizeOf.sizeOf x.kids < SizeOf.sizeOf x := by
        cases x
        simp only [Va.kids, Va.mk.sizeOf_spec]
        omega
      omega))
/-- a twin is still that -/
theorem lfv_any {x : Va} : LfOf x := lfv_size _ x (Nat.le_refl _)

end Go.Proofs.YticmlelalbaalaaGreatDoor
