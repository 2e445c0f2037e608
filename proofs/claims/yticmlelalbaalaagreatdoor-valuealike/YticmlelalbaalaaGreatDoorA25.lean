import Derived.Test.YticmlelalbaalaaGreatDoorA24
import Derived.Test.YticmlelalbaalaaGreatDoorA08
import Derived.Test.YticmlelalbaalaaGreatDoorA22
import Derived.Test.YticmlelalbaalaaGreatDoorA19
namespace Go.Proofs.YticmlelalbaalaaGreatDoor
open Go.RowKit
set_option linter.unusedVariables false
theorem cells8T {u : World} {b : Nat} {a0 a1 a2 a3 a4 a5 a6 a7 : Value} {t : TypeId} (h : u.heap[b]? = some (.cells #[a0, a1, a2, a3, a4, a5, a6, a7] t (0, 0))) :
    u.cell? ⟨b, 0, none⟩ = some a0 ∧ u.cell? ⟨b, 1, none⟩ = some a1 ∧ u.cell? ⟨b, 2, none⟩ = some a2 ∧ u.cell? ⟨b, 3, none⟩ = some a3 ∧ u.cell? ⟨b, 4, none⟩ = some a4 ∧ u.cell? ⟨b, 5, none⟩ = some a5 ∧ u.cell? ⟨b, 6, none⟩ = some a6 ∧ u.cell? ⟨b, 7, none⟩ = some a7 ∧
    u.frozen? ⟨b, 0, none⟩ = false ∧ u.frozen? ⟨b, 1, none⟩ = false ∧ u.frozen? ⟨b, 2, none⟩ = false ∧ u.frozen? ⟨b, 3, none⟩ = false ∧ u.frozen? ⟨b, 4, none⟩ = false ∧ u.frozen? ⟨b, 5, none⟩ = false ∧ u.frozen? ⟨b, 6, none⟩ = false ∧ u.frozen? ⟨b, 7, none⟩ = false := by
  refine ⟨?_, ?_, ?_, ?_, ?_, ?_, ?_, ?_, ?_, ?_, ?_, ?_, ?_, ?_, ?_, ?_⟩ <;> simp [World.cell?, World.frozen?, h]
theorem results_cellT {fn : Func} {p : Tmp} {ty : TypeId} (h : fn.results = #[.cell p ty]) (tmps : Array Value) (P : Program) (w : World) :
    (results fn tmps).run P w = ((asAddr (tmps.getD p undef)).run P w).andThen fun a w₁ => (loadVar ty a).run P w₁ := by
  simp only [results, h]
  simp [Sem.run_bind, Result.andThen]
def put8 (w : World) (b o : Nat) (v0 v1 v2 v3 v4 v5 v6 v7 : Value) : World := (((((((w.setCell ⟨b, o, none⟩ v0).setCell ⟨b, o + 1, none⟩ v1).setCell ⟨b, o + 2, none⟩ v2).setCell ⟨b, o + 3, none⟩ v3).setCell ⟨b, o + 4, none⟩ v4).setCell ⟨b, o + 5, none⟩ v5).setCell ⟨b, o + 6, none⟩ v6).setCell ⟨b, o + 7, none⟩ v7
theorem put8_below {B b o : Nat} {w w4 : World} {v0 v1 v2 v3 v4 v5 v6 v7 : Value} (h : Below B w w4) (hb : B ≤ b) : Below B w (put8 w4 b o v0 v1 v2 v3 v4 v5 v6 v7) :=
  (((((((h.setCell (p := ⟨b, _, none⟩) hb v0).setCell (p := ⟨b, _, none⟩) hb v1).setCell (p := ⟨b, _, none⟩) hb v2).setCell (p := ⟨b, _, none⟩) hb v3).setCell (p := ⟨b, _, none⟩) hb v4).setCell (p := ⟨b, _, none⟩) hb v5).setCell (p := ⟨b, _, none⟩) hb v6).setCell (p := ⟨b, _, none⟩) hb v7
theorem set1_sameT {w : World} {b o : Nat} {v : Value} {j : Nat} (h : j ≠ b) : (w.setCell ⟨b, o, none⟩ v).heap[j]? = w.heap[j]? := Below.heap_setCell w ⟨b, o, none⟩ v j h
theorem put8_same {W : World} {b o : Nat} {v0 v1 v2 v3 v4 v5 v6 v7 : Value} {j : Nat} (h : j ≠ b) : (put8 W b o v0 v1 v2 v3 v4 v5 v6 v7).heap[j]? = W.heap[j]? := by
  unfold put8
  rw [set1_sameT h, set1_sameT h, set1_sameT h, set1_sameT h, set1_sameT h, set1_sameT h, set1_sameT h, set1_sameT h]
theorem own_same {w w' : World} {B b : Nat} {e : TypeId} {s n : Nat} {v : Value} {xs : List Value} (h : w.ownsRow B e s v n xs) (hb : b < B) (hs : ∀ j, j ≠ b → w'.heap[j]? = w.heap[j]?) : w'.ownsRow B e s v n xs := by
  obtain ⟨h0, h1 | ⟨g, cap, cur, rfl, h2, h3, h4⟩⟩ := h
  · exact ⟨h0, .inl h1⟩
  · exact ⟨h0, .inr ⟨g, cap, cur, rfl, h2, (hs g (by omega)).trans h3, h4⟩⟩
theorem flat_set8 (q : Va × Value × Value) : ∀ (zs : List (Va × Value × Value)) (i : Nat), i < zs.length → ∀ a0 a1 a2 a3 a4 a5 a6 a7, vaL q.1 q.2.1 q.2.2 = [a0, a1, a2, a3, a4, a5, a6, a7] →
    ((((((((flatV zs).set (i * 8) a0).set (i * 8 + 1) a1).set (i * 8 + 2) a2).set (i * 8 + 3) a3).set (i * 8 + 4) a4).set (i * 8 + 5) a5).set (i * 8 + 6) a6).set (i * 8 + 7) a7 = flatV (zs.set i q)
  | [], i, h, _, _, _, _, _, _, _, _, _ => by simp at h
  | p :: zs, 0, h, a0, a1, a2, a3, a4, a5, a6, a7, e => by
    rw [List.set_cons_zero, flatV_cons, flatV_cons, e]
    rfl
  | p :: zs, i + 1, h, a0, a1, a2, a3, a4, a5, a6, a7, e => by
    have ih := flat_set8 q zs i (by simpa using h) a0 a1 a2 a3 a4 a5 a6 a7 e
    have hs : ∀ (l : List Value) (j : Nat) (u : Value), (vaL p.1 p.2.1 p.2.2 ++ l).set (j + 8) u = vaL p.1 p.2.1 p.2.2 ++ l.set j u := fun l j u => by
      rw [List.set_append_right _ _ (by simp [vaL])]
      simp [vaL]
    rw [List.set_cons_succ, flatV_cons, flatV_cons, ← ih]
    rw [show (i + 1) * 8 = i * 8 + 8 by omega]
    rw [show i * 8 + 8 + 1 = i * 8 + 1 + 8 by omega, show i * 8 + 8 + 2 = i * 8 + 2 + 8 by omega, show i * 8 + 8 + 3 = i * 8 + 3 + 8 by omega, show i * 8 + 8 + 4 = i * 8 + 4 + 8 by omega, show i * 8 + 8 + 5 = i * 8 + 5 + 8 by omega, show i * 8 + 8 + 6 = i * 8 + 6 + 8 by omega, show i * 8 + 8 + 7 = i * 8 + 7 + 8 by omega]
    rw [hs, hs, hs, hs, hs, hs, hs, hs]
theorem own_put8 {w : World} {B g n cap : Nat} {zs : List (Va × Value × Value)} (h : w.ownsRow B 31 8 (.slice (some ⟨g, 0, none⟩) n cap) n (flatV zs)) {i : Nat} (hi : i < zs.length) (q : Va × Value × Value) {a0 a1 a2 a3 a4 a5 a6 a7 : Value} (e : vaL q.1 q.2.1 q.2.2 = [a0, a1, a2, a3, a4, a5, a6, a7]) :
    (put8 w g (i * 8) a0 a1 a2 a3 a4 a5 a6 a7).ownsRow B 31 8 (.slice (some ⟨g, 0, none⟩) n cap) n (flatV (zs.set i q)) := by
  rw [← flat_set8 q zs i hi a0 a1 a2 a3 a4 a5 a6 a7 e]
  exact (((((((((h.stored _ a0).1.stored _ a1).1.stored _ a2).1.stored _ a3).1.stored _ a4).1.stored _ a5).1.stored _ a6).1).stored _ a7).1
theorem own_c8 {w : World} {B g n cap : Nat} {zs : List (Va × Value × Value)} (h : w.ownsRow B 31 8 (.slice (some ⟨g, 0, none⟩) n cap) n (flatV zs)) {i : Nat} (hi : i < zs.length) : VaC w g (i * 8) zs[i].1 zs[i].2.1 zs[i].2.2 := by
  have hn : n * 8 = zs.length * 8 := by have := h.1; rw [flatV_len] at this; omega
  have hc := fun j (hj : j < 8) => (h.cellAt (i * 8 + j) (by omega)).trans (flatV_at zs i hi j hj)
  exact ⟨(hc 0 (by omega)).trans rfl, (hc 1 (by omega)).trans rfl, (hc 2 (by omega)).trans rfl, (hc 3 (by omega)).trans rfl, (hc 4 (by omega)).trans rfl, (hc 5 (by omega)).trans rfl, (hc 6 (by omega)).trans rfl, (hc 7 (by omega)).trans rfl⟩
end Go.Proofs.YticmlelalbaalaaGreatDoor
namespace Go.Proofs.YticmlelalbaalaaGreatDoor
open Go.RowKit
set_option linter.unusedVariables false
set_option linter.unusedSimpArgs false
end Go.Proofs.YticmlelalbaalaaGreatDoor
namespace Go.Proofs.YticmlelalbaalaaGreatDoor
open Go.RowKit
set_option linter.unusedVariables false
set_option linter.unusedSimpArgs false
end Go.Proofs.YticmlelalbaalaaGreatDoor
namespace Go.Proofs.YticmlelalbaalaaGreatDoor
open Go.RowKit
set_option linter.unusedVariables false
set_option maxHeartbeats 4000000 in
theorem sameint_any {w : World} {g1 g2 : Bool} {m1 m2 : Value} {xs ys : List Int} (h1 : Reads .u32 w m1 xs) (h2 : Reads .u32 w m2 ys) : Calls Tryz.prog 59 #[.agg #[.bool g1, m1], .agg #[.bool g2, m2]] w fun e' w' => e' = .returned (.bool (g1 == g2 && decide (xs = ys))) ∧ Below w.heap.size w w' := by
  have H1 := hide h1
  have H2 := hide h2
  obtain ⟨o1, c1, rfl, -⟩ := h1
  obtain ⟨o2, c2, rfl, -⟩ := h2
  generalize hx : xs.length = l1 at *
  generalize hy : ys.length = l2 at *
  clear hx hy
  by_cases hg : g1 = g2
  · subst hg
    have hgg : (g1 == g1) = true := by simp
    have HE := hide (show (g1 == g1 && decide (xs = ys)) = decide (xs = ys) by rw [hgg, Bool.true_and])
    go_enter Tryz.func59, Tryz.ntmps59
    go_wp2_with fail
    have K1 := bel_new w (.cells #[.bool g1, .slice o1 l1 c1] 28)
    have K2 := bel_new (w.alloc (.cells #[.bool g1, .slice o1 l1 c1] 28)) (.cells #[.bool g1, .slice o2 l2 c2] 28)
    have KK := hide (below_trans K1 K2)
    clear K1 K2
    with_reducible refine (same_any (H1.out.below KK.out) (H2.out.below KK.out)).mono ?_
    rintro e w2 ⟨rfl, K3⟩
    have KZ := hide (below_trans KK.out K3)
    clear K3
    go_wp2
    go_ret
    exact ⟨by rw [HE.out]; rfl, KZ.out⟩
  · have hgg : (g1 == g2) = false := by simp [hg]
    have HE := hide (show (g1 == g2 && decide (xs = ys)) = false by rw [hgg, Bool.false_and])
    go_enter Tryz.func59, Tryz.ntmps59
    go_wp2
    go_ret
    exact ⟨by rw [HE.out]; rfl, (bel_new _ _).alloc (by simp) _⟩
end Go.Proofs.YticmlelalbaalaaGreatDoor
namespace Go.Proofs.YticmlelalbaalaaGreatDoor
open Go.RowKit
set_option linter.unusedVariables false
set_option linter.unusedSimpArgs false
theorem sint_self {w : World} {g : Bool} {m1 m2 : Value} {xs : List Int} (h1 : Reads .u32 w m1 xs) (h2 : Reads .u32 w m2 xs) : Calls Tryz.prog 59 #[.agg #[.bool g, m1], .agg #[.bool g, m2]] w fun e' w' => e' = .returned (.bool true) ∧ Below w.heap.size w w' :=
  (sameint_any h1 h2).mono fun e w' h => ⟨h.1.trans (by simp), h.2⟩
def SmsOf (xs : List Va) : Prop := ∀ (w : World) (u v : Value), VaSl w u xs → VaSl w v xs → Calls Tryz.prog 60 #[u, v] w fun e w' => e = .returned (.bool true) ∧ Below w.heap.size w w'
def SmOf (x : Va) : Prop := ∀ (w : World) (u v : Value), VaRd w u x → VaRd w v x → Calls Tryz.prog 23 #[u, v] w fun e w' => e = .returned (.bool true) ∧ Below w.heap.size w w'
set_option maxHeartbeats 16000000 in
set_option maxRecDepth 100000 in
theorem smv_step {x : Va} (ih : SmsOf x.kids) : SmOf x := by
  intro w u v hu hv
  unfold SmsOf at ih
  have HI := hide ih
  obtain ⟨⟨tm, tk, rfl, hT, hS⟩, hw⟩ := hu
  obtain ⟨⟨vm, vk, rfl, hm, hk⟩, -⟩ := hv
  have HT := hide hT
  have HS := hide hS
  have HM := hide hm
  have HK := hide hk
  obtain ⟨mo1, mc1, rfl, -⟩ : ∃ ao cap, tm = .slice ao x.mag.length cap ∧ True := by obtain ⟨ao, cap, h, _⟩ := hT; exact ⟨ao, cap, h, trivial⟩
  obtain ⟨ko1, kc1, rfl, -⟩ := hS.len
  obtain ⟨mo2, mc2, rfl, -⟩ : ∃ ao cap, vm = .slice ao x.mag.length cap ∧ True := by obtain ⟨ao, cap, h, _⟩ := hm; exact ⟨ao, cap, h, trivial⟩
  obtain ⟨ko2, kc2, rfl, -⟩ := hk.len
  unfold vaV
  obtain ⟨n1, hn1⟩ : ∃ n, x.mag.length = n := ⟨_, rfl⟩
  obtain ⟨l1, hl1⟩ : ∃ n, x.kids.length = n := ⟨_, rfl⟩
  obtain ⟨tx, htx⟩ : ∃ t, strOfNums x.text = t := ⟨_, rfl⟩
  rw [hn1] at HT HM ⊢
  rw [hl1] at HS HK ⊢
  rw [htx]
  clear hS hw hm hk hT ih hn1 hl1 htx
  have K1 := hide (below_trans (bel_new w (.cells #[.int .i8 x.kind, .int .u64 x.n, .bool x.neg, .slice mo1 n1 mc1, .int .u64 x.bits, .int .i8 x.ext, .string tx, .slice ko1 l1 kc1] 31)) (bel_new (w.alloc (.cells #[.int .i8 x.kind, .int .u64 x.n, .bool x.neg, .slice mo1 n1 mc1, .int .u64 x.bits, .int .i8 x.ext, .string tx, .slice ko1 l1 kc1] 31)) (.cells #[.int .i8 x.kind, .int .u64 x.n, .bool x.neg, .slice mo2 n1 mc2, .int .u64 x.bits, .int .i8 x.ext, .string tx, .slice ko2 l1 kc2] 31)))
  have BT := hide ((box8_new w (.int .i8 x.kind) (.int .u64 x.n) (.bool x.neg) (.slice mo1 n1 mc1) (.int .u64 x.bits) (.int .i8 x.ext) (.string tx) (.slice ko1 l1 kc1) 31).below (bel_new (w.alloc (.cells #[.int .i8 x.kind, .int .u64 x.n, .bool x.neg, .slice mo1 n1 mc1, .int .u64 x.bits, .int .i8 x.ext, .string tx, .slice ko1 l1 kc1] 31)) (.cells #[.int .i8 x.kind, .int .u64 x.n, .bool x.neg, .slice mo2 n1 mc2, .int .u64 x.bits, .int .i8 x.ext, .string tx, .slice ko2 l1 kc2] 31)) (by simp))
  have BV := hide (box8_new (w.alloc (.cells #[.int .i8 x.kind, .int .u64 x.n, .bool x.neg, .slice mo1 n1 mc1, .int .u64 x.bits, .int .i8 x.ext, .string tx, .slice ko1 l1 kc1] 31)) (.int .i8 x.kind) (.int .u64 x.n) (.bool x.neg) (.slice mo2 n1 mc2) (.int .u64 x.bits) (.int .i8 x.ext) (.string tx) (.slice ko2 l1 kc2) 31)
  have e1 : (w.alloc (.cells #[.int .i8 x.kind, .int .u64 x.n, .bool x.neg, .slice mo1 n1 mc1, .int .u64 x.bits, .int .i8 x.ext, .string tx, .slice ko1 l1 kc1] 31)).heap.size = w.heap.size + 1 := by simp
  rw [e1] at BV
  go_enter Tryz.func23, Tryz.ntmps23
  go_upto_region 1 with fail
  generalize (w.alloc (.cells #[.int .i8 x.kind, .int .u64 x.n, .bool x.neg, .slice mo1 n1 mc1, .int .u64 x.bits, .int .i8 x.ext, .string tx, .slice ko1 l1 kc1] 31)).alloc (.cells #[.int .i8 x.kind, .int .u64 x.n, .bool x.neg, .slice mo2 n1 mc2, .int .u64 x.bits, .int .i8 x.ext, .string tx, .slice ko2 l1 kc2] 31) = W1 at *
  clear e1
  have lt1 : w.heap.size + 1 < W1.heap.size := vcell_lt BV.out.1
  obtain ⟨y0, y1, y2, y3, y4, y5, y6, y7⟩ := BT.out
  obtain ⟨z0, z1, z2, z3, z4, z5, z6, z7⟩ := BV.out
  have CALL1 := hide (sint_self (g := x.neg) (HT.out.below K1.out) (HM.out.below K1.out))
  go_wp2_with fail
  with_reducible refine CALL1.out.mono ?_
  rintro e w2 ⟨rfl, hb⟩
  have K2 := hide (below_trans K1.out hb)
  have BT2 := hide (BT.out.below hb (by omega))
  have BV2 := hide (BV.out.below hb (by omega))
  clear hb CALL1 y0 y1 y2 y3 y4 y5 y6 y7 z0 z1 z2 z3 z4 z5 z6 z7 BT BV
  obtain ⟨y0, y1, y2, y3, y4, y5, y6, y7⟩ := BT2.out
  obtain ⟨z0, z1, z2, z3, z4, z5, z6, z7⟩ := BV2.out
  have CALL2 := hide (HI.out w2 _ _ (HS.out.far K2.out) (HK.out.far K2.out))
  go_wp2_with fail
  with_reducible refine CALL2.out.mono ?_
  rintro e w3 ⟨rfl, hb⟩
  have K3 := hide (below_trans K2.out hb)
  clear hb CALL2 y0 y1 y2 y3 y4 y5 y6 y7 z0 z1 z2 z3 z4 z5 z6 z7
  go_wp2
  go_ret
  exact ⟨rfl, K3.out⟩
set_option maxHeartbeats 16000000 in
set_option maxRecDepth 100000 in
theorem sms_step {xs : List Va} (ih : ∀ x ∈ xs, SmOf x) : SmsOf xs := by
  intro w u v hu hv
  have HU := hide hu
  have HV := hide hv
  obtain ⟨ao1, cap1, rfl, hc1, hcm1⟩ := hu.len
  obtain ⟨ao2, cap2, rfl, hc2, hcm2⟩ := hv.len
  obtain ⟨n, hnn⟩ : ∃ n, xs.length = n := ⟨_, rfl⟩
  rw [hnn] at HU HV hc1 hc2 ⊢
  have HNN := hide hnn
  have HI := hide ih
  clear hu hv hnn ih
  go_enter Tryz.func60, Tryz.ntmps60
  go_wp2
  go_loopw [5] (fun iv wr => ∃ j : Nat, j ≤ n ∧ iv = .int .i64 j ∧ Hid (Below w.heap.size w wr)) (fun iv _ => n - (intOf iv).toNat)
  case atStart => exact ⟨0, by omega, rfl, hide (Below.refl _ _)⟩
  case round =>
    obtain ⟨j, hj, rfl, HB⟩ := hrel
    by_cases q : j < n
    · have q0 : (j : Int) < (n : Int) := by omega
      have hjx : j < xs.length := by rw [HNN.out]; exact q
      obtain ⟨b1, o1, vm1, vk1, rfl, hb1, cc1, hm1, hk1, hw1⟩ := VaSl.at (HU.out.far HB.out) (by rw [HNN.out]) hjx
      obtain ⟨b2, o2, vm2, vk2, rfl, hb2, cc2, hm2, hk2, hw2⟩ := VaSl.at (HV.out.far HB.out) (by rw [HNN.out]) hjx
      have HYM := hide (show xs[j] ∈ xs from List.getElem_mem hjx)
      generalize xs[j] = y at *
      have TW := hide (show VaRd wr (vaV y vm1 vk1) y from ⟨⟨_, _, rfl, hm1, hk1⟩, hw1⟩)
      have RD := hide (show VaRd wr (vaV y vm2 vk2) y from ⟨⟨_, _, rfl, hm2, hk2⟩, hw2⟩)
      have CALL := hide (fun (u : World) (hu : Below wr.heap.size wr u) => HI.out y HYM.out u _ _ (TW.out.far hu) (RD.out.far hu))
      have TC := hide (fun (u : World) (hu : Below wr.heap.size wr u) => cc1.below hu hb1)
      have LC := hide (fun (u : World) (hu : Below wr.heap.size wr u) => cc2.below hu hb2)
      obtain ⟨mo1, mc1, rfl, -⟩ : ∃ ao cap, vm1 = .slice ao y.mag.length cap ∧ True := by obtain ⟨ao, cap, h, _⟩ := hm1; exact ⟨ao, cap, h, trivial⟩
      obtain ⟨ko1, kc1, rfl, -⟩ := hk1.len
      obtain ⟨mo2, mc2, rfl, -⟩ : ∃ ao cap, vm2 = .slice ao y.mag.length cap ∧ True := by obtain ⟨ao, cap, h, _⟩ := hm2; exact ⟨ao, cap, h, trivial⟩
      obtain ⟨ko2, kc2, rfl, -⟩ := hk2.len
      have TC2 := hide (fun (u : World) (hu : Below wr.heap.size wr u) => (show u.cell? ⟨b1, o1 + j * 8, none⟩ = some (.int .i8 y.kind) ∧ u.cell? ⟨b1, o1 + j * 8 + 1, none⟩ = some (.int .u64 y.n) ∧ u.cell? ⟨b1, o1 + j * 8 + 2, none⟩ = some (.bool y.neg) ∧ u.cell? ⟨b1, o1 + j * 8 + 3, none⟩ = some (.slice mo1 y.mag.length mc1) ∧ u.cell? ⟨b1, o1 + j * 8 + 4, none⟩ = some (.int .u64 y.bits) ∧ u.cell? ⟨b1, o1 + j * 8 + 5, none⟩ = some (.int .i8 y.ext) ∧ u.cell? ⟨b1, o1 + j * 8 + 6, none⟩ = some (.string (strOfNums y.text)) ∧ u.cell? ⟨b1, o1 + j * 8 + 7, none⟩ = some (.slice ko1 y.kids.length kc1) ∧ u.cell? ⟨b2, o2 + j * 8, none⟩ = some (.int .i8 y.kind) ∧ u.cell? ⟨b2, o2 + j * 8 + 1, none⟩ = some (.int .u64 y.n) ∧ u.cell? ⟨b2, o2 + j * 8 + 2, none⟩ = some (.bool y.neg) ∧ u.cell? ⟨b2, o2 + j * 8 + 3, none⟩ = some (.slice mo2 y.mag.length mc2) ∧ u.cell? ⟨b2, o2 + j * 8 + 4, none⟩ = some (.int .u64 y.bits) ∧ u.cell? ⟨b2, o2 + j * 8 + 5, none⟩ = some (.int .i8 y.ext) ∧ u.cell? ⟨b2, o2 + j * 8 + 6, none⟩ = some (.string (strOfNums y.text)) ∧ u.cell? ⟨b2, o2 + j * 8 + 7, none⟩ = some (.slice ko2 y.kids.length kc2) from by
        have p := TC.out u hu
        have q := LC.out u hu
        exact ⟨p.c0, p.c1, p.c2, p.c3, p.c4, p.c5, p.c6, p.c7, q.c0, q.c1, q.c2, q.c3, q.c4, q.c5, q.c6, q.c7⟩))
      unfold vaV at CALL
      obtain ⟨n1, hn1⟩ : ∃ n, y.mag.length = n := ⟨_, rfl⟩
      obtain ⟨l1, hl1⟩ : ∃ n, y.kids.length = n := ⟨_, rfl⟩
      obtain ⟨ty, hty⟩ : ∃ t, strOfNums y.text = t := ⟨_, rfl⟩
      rw [hn1, hl1, hty] at CALL TC2
      clear hm1 hk1 hw1 hm2 hk2 hw2 TW RD TC LC cc1 cc2 hn1 hl1 hty
      go_upto_region 6 with fail
      have CC : ∀ u : World, Below wr.heap.size wr u → u.cell? ⟨b1, o1 + j * 8, none⟩ = some (.int .i8 y.kind) ∧ u.cell? ⟨b1, o1 + j * 8 + 1, none⟩ = some (.int .u64 y.n) ∧ u.cell? ⟨b1, o1 + j * 8 + 2, none⟩ = some (.bool y.neg) ∧ u.cell? ⟨b1, o1 + j * 8 + 3, none⟩ = some (.slice mo1 n1 mc1) ∧ u.cell? ⟨b1, o1 + j * 8 + 4, none⟩ = some (.int .u64 y.bits) ∧ u.cell? ⟨b1, o1 + j * 8 + 5, none⟩ = some (.int .i8 y.ext) ∧ u.cell? ⟨b1, o1 + j * 8 + 6, none⟩ = some (.string ty) ∧ u.cell? ⟨b1, o1 + j * 8 + 7, none⟩ = some (.slice ko1 l1 kc1) ∧ u.cell? ⟨b2, o2 + j * 8, none⟩ = some (.int .i8 y.kind) ∧ u.cell? ⟨b2, o2 + j * 8 + 1, none⟩ = some (.int .u64 y.n) ∧ u.cell? ⟨b2, o2 + j * 8 + 2, none⟩ = some (.bool y.neg) ∧ u.cell? ⟨b2, o2 + j * 8 + 3, none⟩ = some (.slice mo2 n1 mc2) ∧ u.cell? ⟨b2, o2 + j * 8 + 4, none⟩ = some (.int .u64 y.bits) ∧ u.cell? ⟨b2, o2 + j * 8 + 5, none⟩ = some (.int .i8 y.ext) ∧ u.cell? ⟨b2, o2 + j * 8 + 6, none⟩ = some (.string ty) ∧ u.cell? ⟨b2, o2 + j * 8 + 7, none⟩ = some (.slice ko2 l1 kc2) := fun u hu => TC2.out u hu
      have K : Below wr.heap.size wr wr.drew := (Below.refl _ _).drew
      have HC0 := CC _ K
      refine wpHl.region0 (C := fun u => u.cell? ⟨b1, o1 + j * 8, none⟩ = some (.int .i8 y.kind) ∧ u.cell? ⟨b1, o1 + j * 8 + 1, none⟩ = some (.int .u64 y.n) ∧ u.cell? ⟨b1, o1 + j * 8 + 2, none⟩ = some (.bool y.neg) ∧ u.cell? ⟨b1, o1 + j * 8 + 3, none⟩ = some (.slice mo1 n1 mc1) ∧ u.cell? ⟨b1, o1 + j * 8 + 4, none⟩ = some (.int .u64 y.bits) ∧ u.cell? ⟨b1, o1 + j * 8 + 5, none⟩ = some (.int .i8 y.ext) ∧ u.cell? ⟨b1, o1 + j * 8 + 6, none⟩ = some (.string ty) ∧ u.cell? ⟨b1, o1 + j * 8 + 7, none⟩ = some (.slice ko1 l1 kc1) ∧ u.cell? ⟨b2, o2 + j * 8, none⟩ = some (.int .i8 y.kind) ∧ u.cell? ⟨b2, o2 + j * 8 + 1, none⟩ = some (.int .u64 y.n) ∧ u.cell? ⟨b2, o2 + j * 8 + 2, none⟩ = some (.bool y.neg) ∧ u.cell? ⟨b2, o2 + j * 8 + 3, none⟩ = some (.slice mo2 n1 mc2) ∧ u.cell? ⟨b2, o2 + j * 8 + 4, none⟩ = some (.int .u64 y.bits) ∧ u.cell? ⟨b2, o2 + j * 8 + 5, none⟩ = some (.int .i8 y.ext) ∧ u.cell? ⟨b2, o2 + j * 8 + 6, none⟩ = some (.string ty) ∧ u.cell? ⟨b2, o2 + j * 8 + 7, none⟩ = some (.slice ko2 l1 kc2)) (by kernel_rfl) (by kernel_rfl) (fun HS => ?_)
      refine wpHl.tk0 (i := 0) (d := some 17) (v := .slice (some ⟨b1, o1, none⟩) n cap1) rfl HS (by as_aux_lemma => kernel_rfl) rfl (fun _ _ _ h => h) (Or.inl ⟨by rfl, ?_⟩) HC0 ?_
      · intro u hC
        go_simp
      simp only [Act.put, List.setIfInBounds_toArray, List.set_cons_zero, List.set_cons_succ]
      refine wpHl.tk0 (i := 1) (d := some 18) (v := .int .i64 j) rfl HS (by as_aux_lemma => kernel_rfl) rfl (fun _ _ _ h => h) (Or.inl ⟨by rfl, ?_⟩) HC0 ?_
      · intro u hC
        go_simp
      simp only [Act.put, List.setIfInBounds_toArray, List.set_cons_zero, List.set_cons_succ]
      refine wpHl.tk0 (i := 2) (d := some 19) (v := .pointer (some ⟨b1, o1 + j * 8, none⟩)) rfl HS (by as_aux_lemma => kernel_rfl) rfl (fun _ _ _ h => h) (Or.inl ⟨by rfl, ?_⟩) HC0 ?_
      · intro u hC
        go_simp
      simp only [Act.put, List.setIfInBounds_toArray, List.set_cons_zero, List.set_cons_succ]
      refine wpHl.tk0 (i := 3) (d := some 20) (v := .agg #[.int .i8 y.kind, .int .u64 y.n, .bool y.neg, .slice mo1 n1 mc1, .int .u64 y.bits, .int .i8 y.ext, .string ty, .slice ko1 l1 kc1]) rfl HS (by as_aux_lemma => kernel_rfl) rfl (fun _ _ _ h => h) (Or.inl ⟨by rfl, ?_⟩) HC0 ?_
      · intro u hC
        obtain ⟨z0, z1, z2, z3, z4, z5, z6, z7, z8, z9, z10, z11, z12, z13, z14, z15⟩ := hC
        go_simp
      simp only [Act.put, List.setIfInBounds_toArray, List.set_cons_zero, List.set_cons_succ]
      refine wpHl.tk0 (i := 4) (d := some 21) (v := .slice (some ⟨b2, o2, none⟩) n cap2) rfl HS (by as_aux_lemma => kernel_rfl) rfl (fun _ _ _ h => h) (Or.inl ⟨by rfl, ?_⟩) HC0 ?_
      · intro u hC
        go_simp
      simp only [Act.put, List.setIfInBounds_toArray, List.set_cons_zero, List.set_cons_succ]
      refine wpHl.tk0 (i := 5) (d := some 22) (v := .int .i64 j) rfl HS (by as_aux_lemma => kernel_rfl) rfl (fun _ _ _ h => h) (Or.inl ⟨by rfl, ?_⟩) HC0 ?_
      · intro u hC
        go_simp
      simp only [Act.put, List.setIfInBounds_toArray, List.set_cons_zero, List.set_cons_succ]
      refine wpHl.tk0 (i := 6) (d := some 23) (v := .pointer (some ⟨b2, o2 + j * 8, none⟩)) rfl HS (by as_aux_lemma => kernel_rfl) rfl (fun _ _ _ h => h) (Or.inl ⟨by rfl, ?_⟩) HC0 ?_
      · intro u hC
        go_simp
      simp only [Act.put, List.setIfInBounds_toArray, List.set_cons_zero, List.set_cons_succ]
      refine wpHl.tk0 (i := 7) (d := some 24) (v := .agg #[.int .i8 y.kind, .int .u64 y.n, .bool y.neg, .slice mo2 n1 mc2, .int .u64 y.bits, .int .i8 y.ext, .string ty, .slice ko2 l1 kc2]) rfl HS (by as_aux_lemma => kernel_rfl) rfl (fun _ _ _ h => h) (Or.inl ⟨by rfl, ?_⟩) HC0 ?_
      · intro u hC
        obtain ⟨z0, z1, z2, z3, z4, z5, z6, z7, z8, z9, z10, z11, z12, z13, z14, z15⟩ := hC
        go_simp
      simp only [Act.put, List.setIfInBounds_toArray, List.set_cons_zero, List.set_cons_succ]
      refine wpHl.one (i := 8) (by as_aux_lemma => kernel_rfl) rfl (fun K1 hK1 => ?_)
      rw [if_pos (by rfl)]
      refine wp_call_of (f := 23) (args := #[.agg #[.int .i8 y.kind, .int .u64 y.n, .bool y.neg, .slice mo1 n1 mc1, .int .u64 y.bits, .int .i8 y.ext, .string ty, .slice ko1 l1 kc1], .agg #[.int .i8 y.kind, .int .u64 y.n, .bool y.neg, .slice mo2 n1 mc2, .int .u64 y.bits, .int .i8 y.ext, .string ty, .slice ko2 l1 kc2]]) (by kernel_rfl) ?_
      with_reducible refine (CALL.out _ K).mono ?_
      rintro e wn ⟨rfl, hb⟩
      replace K := below_trans K hb
      clear HC0
      have HC0 := CC _ K
      refine hK1 (Act.put _ (some 25) _) _ ⟨fun _ => HC0, ?_⟩
      clear hK1 K1 hb
      try simp only [Act.put, List.setIfInBounds_toArray, List.set_cons_zero, List.set_cons_succ]
      refine wpHl.tk0 (i := 9) (d := some 26) (v := .bool false) rfl HS (by as_aux_lemma => kernel_rfl) rfl (fun _ _ _ h => h) (Or.inl ⟨by rfl, ?_⟩) HC0 ?_
      · intro u hC
        go_simp
      simp only [Act.put, List.setIfInBounds_toArray, List.set_cons_zero, List.set_cons_succ]
      refine wpHl.done (by as_aux_lemma => kernel_rfl) ?_ _
      clear CC HC0 HS
      replace HB := hide (below_trans HB.out K)
      clear K CALL TC2
      go_wp2
      go_roundw
      case rel => exact ⟨j + 1, by omega, by go_num, HB⟩
      case measure => simp [intOf]; omega
    · have q0 : ¬ (j : Int) < (n : Int) := by omega
      go_wp2
      go_ret
      exact ⟨rfl, HB.out⟩
theorem smv_size : ∀ (N : Nat) (x : Va), SizeOf.sizeOf x ≤ N → SmOf x
  | 0, x, h => by cases x; simp at h
  | N + 1, x, h => smv_step (sms_step fun y hy => smv_size N y (by
      have h3 := List.sizeOf_lt_of_mem hy
      have h4 : SizeOf.sizeOf x.kids < SizeOf.sizeOf x := by
        cases x
        simp only [Va.kids, Va.mk.sizeOf_spec]
        omega
      omega))
theorem smv_any {x : Va} : SmOf x := smv_size _ x (Nat.le_refl _)
end Go.Proofs.YticmlelalbaalaaGreatDoor
namespace Go.Proofs.YticmlelalbaalaaGreatDoor
open Go.RowKit
set_option linter.unusedVariables false
set_option linter.unusedSimpArgs false
end Go.Proofs.YticmlelalbaalaaGreatDoor
namespace Go.Proofs.YticmlelalbaalaaGreatDoor
open Go.RowKit
set_option linter.unusedVariables false
set_option linter.unusedSimpArgs false
theorem vext {x y : Va} (h0 : x.kind = y.kind) (h1 : x.n = y.n) (h2 : x.neg = y.neg) (h3 : x.mag = y.mag) (h4 : x.bits = y.bits) (h5 : x.ext = y.ext) (h6 : x.text = y.text) (h7 : x.kids = y.kids) : x = y := by
  cases x; cases y
  simp only [Va.kind, Va.n, Va.neg, Va.mag, Va.bits, Va.ext, Va.text, Va.kids] at *
  subst_vars; rfl
noncomputable def sameB (x y : Va) : Bool := @decide (x = y) (Classical.propDecidable _)
noncomputable def sameBs (xs ys : List Va) : Bool := @decide (xs = ys) (Classical.propDecidable _)
theorem sameB_no {x y : Va} (h : x ≠ y) : sameB x y = false := @decide_eq_false _ (Classical.propDecidable _) h
theorem sameB_yes {x y : Va} (h : x = y) : sameB x y = true := @decide_eq_true _ (Classical.propDecidable _) h
theorem sameB_eq {x y : Va} (h : sameB x y = true) : x = y := @of_decide_eq_true _ (Classical.propDecidable _) h
theorem sameB_ne {x y : Va} (h : sameB x y = false) : x ≠ y := @of_decide_eq_false _ (Classical.propDecidable _) h
theorem sameBs_no {x y : List Va} (h : x ≠ y) : sameBs x y = false := @decide_eq_false _ (Classical.propDecidable _) h
theorem sameBs_yes {x y : List Va} (h : x = y) : sameBs x y = true := @decide_eq_true _ (Classical.propDecidable _) h
theorem sameBs_eq {x y : List Va} (h : sameBs x y = true) : x = y := @of_decide_eq_true _ (Classical.propDecidable _) h
theorem sameBs_ne {x y : List Va} (h : sameBs x y = false) : x ≠ y := @of_decide_eq_false _ (Classical.propDecidable _) h
theorem text_list (xs : List Int) : (strOfNums xs).toList = xs.map fun n => UInt8.ofNat n.toNat := by rw [ByteArray.toList_eq]; rfl
theorem text_eq : ∀ {a b : List Int}, Byt a → Byt b → strOfNums a = strOfNums b → a = b := by
  intro a b ha hb h
  have h1 := text_list a
  rw [h, text_list b] at h1
  clear h
  induction a generalizing b with
  | nil => cases b with
    | nil => rfl
    | cons y b => simp at h1
  | cons x a ih =>
    cases b with
    | nil => simp at h1
    | cons y b =>
      simp only [List.map_cons, List.cons.injEq] at h1
      have hx := ha x List.mem_cons_self
      have hy := hb y List.mem_cons_self
      have e : x = y := by
        have := congrArg UInt8.toNat h1.1
        simp at this
        omega
      rw [e, ih (fun z hz => ha z (List.mem_cons_of_mem _ hz)) (fun z hz => hb z (List.mem_cons_of_mem _ hz)) h1.2]
def SasOf (xs : List Va) : Prop := ∀ (ys : List Va) (w : World) (u v : Value), VaSl w u xs → VaSl w v ys → Calls Tryz.prog 60 #[u, v] w fun e w' => e = .returned (.bool (sameBs xs ys)) ∧ Below w.heap.size w w'
def SaOf (x : Va) : Prop := ∀ (y : Va) (w : World) (u v : Value), VaRd w u x → VaRd w v y → Calls Tryz.prog 23 #[u, v] w fun e w' => e = .returned (.bool (sameB x y)) ∧ Below w.heap.size w w'
set_option maxHeartbeats 16000000 in
set_option maxRecDepth 100000 in
theorem sav_step {x : Va} (ih : SasOf x.kids) : SaOf x := by
  intro y w u v hu hv
  unfold SasOf at ih
  have HI := hide ih
  obtain ⟨⟨tm, tk, rfl, hT, hS⟩, hw⟩ := hu
  obtain ⟨⟨vm, vk, rfl, hm, hk⟩, hw2⟩ := hv
  have HT := hide hT
  have HS := hide hS
  have HM := hide hm
  have HK := hide hk
  obtain ⟨mo1, mc1, rfl, -⟩ : ∃ ao cap, tm = .slice ao x.mag.length cap ∧ True := by obtain ⟨ao, cap, h, _⟩ := hT; exact ⟨ao, cap, h, trivial⟩
  obtain ⟨ko1, kc1, rfl, -⟩ := hS.len
  obtain ⟨mo2, mc2, rfl, -⟩ : ∃ ao cap, vm = .slice ao y.mag.length cap ∧ True := by obtain ⟨ao, cap, h, _⟩ := hm; exact ⟨ao, cap, h, trivial⟩
  obtain ⟨ko2, kc2, rfl, -⟩ := hk.len
  have HTE := hide (fun h => text_eq hw.t hw2.t h)
  unfold vaV
  obtain ⟨n1, hn1⟩ : ∃ n, x.mag.length = n := ⟨_, rfl⟩
  obtain ⟨l1, hl1⟩ : ∃ n, x.kids.length = n := ⟨_, rfl⟩
  obtain ⟨n2, hn2⟩ : ∃ n, y.mag.length = n := ⟨_, rfl⟩
  obtain ⟨l2, hl2⟩ : ∃ n, y.kids.length = n := ⟨_, rfl⟩
  have HNE := hide (show x.text = y.text → strOfNums x.text = strOfNums y.text from fun h => by rw [h])
  obtain ⟨tx, htx⟩ : ∃ t, strOfNums x.text = t := ⟨_, rfl⟩
  obtain ⟨ty, hty⟩ : ∃ t, strOfNums y.text = t := ⟨_, rfl⟩
  rw [hn1] at HT ⊢
  rw [hl1] at HS ⊢
  rw [hn2] at HM ⊢
  rw [hl2] at HK ⊢
  rw [htx, hty] at HTE HNE ⊢
  obtain ⟨b, hb⟩ : ∃ z, sameB x y = z := ⟨_, rfl⟩
  rw [hb]
  have HB := hide hb
  clear hS hw hw2 hm hk hT ih hn1 hl1 hn2 hl2 htx hty hb
  have K1 := hide (below_trans (bel_new w (.cells #[.int .i8 x.kind, .int .u64 x.n, .bool x.neg, .slice mo1 n1 mc1, .int .u64 x.bits, .int .i8 x.ext, .string tx, .slice ko1 l1 kc1] 31)) (bel_new (w.alloc (.cells #[.int .i8 x.kind, .int .u64 x.n, .bool x.neg, .slice mo1 n1 mc1, .int .u64 x.bits, .int .i8 x.ext, .string tx, .slice ko1 l1 kc1] 31)) (.cells #[.int .i8 y.kind, .int .u64 y.n, .bool y.neg, .slice mo2 n2 mc2, .int .u64 y.bits, .int .i8 y.ext, .string ty, .slice ko2 l2 kc2] 31)))
  have BT := hide ((box8_new w (.int .i8 x.kind) (.int .u64 x.n) (.bool x.neg) (.slice mo1 n1 mc1) (.int .u64 x.bits) (.int .i8 x.ext) (.string tx) (.slice ko1 l1 kc1) 31).below (bel_new (w.alloc (.cells #[.int .i8 x.kind, .int .u64 x.n, .bool x.neg, .slice mo1 n1 mc1, .int .u64 x.bits, .int .i8 x.ext, .string tx, .slice ko1 l1 kc1] 31)) (.cells #[.int .i8 y.kind, .int .u64 y.n, .bool y.neg, .slice mo2 n2 mc2, .int .u64 y.bits, .int .i8 y.ext, .string ty, .slice ko2 l2 kc2] 31)) (by simp))
  have BV := hide (box8_new (w.alloc (.cells #[.int .i8 x.kind, .int .u64 x.n, .bool x.neg, .slice mo1 n1 mc1, .int .u64 x.bits, .int .i8 x.ext, .string tx, .slice ko1 l1 kc1] 31)) (.int .i8 y.kind) (.int .u64 y.n) (.bool y.neg) (.slice mo2 n2 mc2) (.int .u64 y.bits) (.int .i8 y.ext) (.string ty) (.slice ko2 l2 kc2) 31)
  have e1 : (w.alloc (.cells #[.int .i8 x.kind, .int .u64 x.n, .bool x.neg, .slice mo1 n1 mc1, .int .u64 x.bits, .int .i8 x.ext, .string tx, .slice ko1 l1 kc1] 31)).heap.size = w.heap.size + 1 := by simp
  rw [e1] at BV
  go_enter Tryz.func23, Tryz.ntmps23
  go_upto_region 1 with fail
  generalize (w.alloc (.cells #[.int .i8 x.kind, .int .u64 x.n, .bool x.neg, .slice mo1 n1 mc1, .int .u64 x.bits, .int .i8 x.ext, .string tx, .slice ko1 l1 kc1] 31)).alloc (.cells #[.int .i8 y.kind, .int .u64 y.n, .bool y.neg, .slice mo2 n2 mc2, .int .u64 y.bits, .int .i8 y.ext, .string ty, .slice ko2 l2 kc2] 31) = W1 at *
  clear e1
  have lt1 : w.heap.size + 1 < W1.heap.size := vcell_lt BV.out.1
  obtain ⟨y0, y1, y2, y3, y4, y5, y6, y7⟩ := BT.out
  obtain ⟨z0, z1, z2, z3, z4, z5, z6, z7⟩ := BV.out
  by_cases c0 : x.kind = y.kind
  rotate_left
  · have q0 : (x.kind == y.kind) = false := beq_eq_false_iff_ne.2 c0
    have HZ := hide (show b = false by rw [← HB.out]; exact sameB_no fun h' => c0 (show x.kind = y.kind by rw [h']))
    clear c0
    go_wp2
    go_ret
    exact ⟨by have e := HZ.out; subst e; rfl, K1.out⟩
  have q0 : (x.kind == y.kind) = true := beq_iff_eq.2 c0
  by_cases c1 : x.n = y.n
  rotate_left
  · have q1 : (x.n == y.n) = false := beq_eq_false_iff_ne.2 c1
    have HZ := hide (show b = false by rw [← HB.out]; exact sameB_no fun h' => c1 (show x.n = y.n by rw [h']))
    clear c1
    go_wp2
    go_ret
    exact ⟨by have e := HZ.out; subst e; rfl, K1.out⟩
  have q1 : (x.n == y.n) = true := beq_iff_eq.2 c1
  by_cases c2 : x.bits = y.bits
  rotate_left
  · have q2 : (x.bits == y.bits) = false := beq_eq_false_iff_ne.2 c2
    have HZ := hide (show b = false by rw [← HB.out]; exact sameB_no fun h' => c2 (show x.bits = y.bits by rw [h']))
    clear c2
    go_wp2
    go_ret
    exact ⟨by have e := HZ.out; subst e; rfl, K1.out⟩
  have q2 : (x.bits == y.bits) = true := beq_iff_eq.2 c2
  by_cases c3 : x.ext = y.ext
  rotate_left
  · have q3 : (x.ext == y.ext) = false := beq_eq_false_iff_ne.2 c3
    have HZ := hide (show b = false by rw [← HB.out]; exact sameB_no fun h' => c3 (show x.ext = y.ext by rw [h']))
    clear c3
    go_wp2
    go_ret
    exact ⟨by have e := HZ.out; subst e; rfl, K1.out⟩
  have q3 : (x.ext == y.ext) = true := beq_iff_eq.2 c3
  by_cases c4 : tx = ty
  rotate_left
  · have q4 : (tx.toList == ty.toList) = false := beq_eq_false_iff_ne.2 fun h' => c4 (Go.WideShapes.bytes_inj (by rw [ByteArray.toList_eq, ByteArray.toList_eq] at h'; exact h'))
    have HZ := hide (show b = false by rw [← HB.out]; exact sameB_no fun h' => c4 (HNE.out (by rw [h'])))
    clear c4
    go_wp2
    go_ret
    exact ⟨by have e := HZ.out; subst e; rfl, K1.out⟩
  have q4 : (tx.toList == ty.toList) = true := by rw [c4]; exact beq_self_eq_true _
  have EQ := hide (And.intro c0 (And.intro c1 (And.intro c2 (And.intro c3 c4))))
  clear c0 c1 c2 c3 c4
  have CALL1 := hide (sameint_any (g1 := x.neg) (g2 := y.neg) (HT.out.below K1.out) (HM.out.below K1.out))
  obtain ⟨s, hs⟩ : ∃ z, (x.neg == y.neg && decide (x.mag = y.mag)) = z := ⟨_, rfl⟩
  rw [hs] at CALL1
  have HSS := hide hs
  clear hs
  go_wp2_with fail
  with_reducible refine CALL1.out.mono ?_
  rintro e w2 ⟨rfl, hb⟩
  have K2 := hide (below_trans K1.out hb)
  have BT2 := hide (BT.out.below hb (by omega))
  have BV2 := hide (BV.out.below hb (by omega))
  clear hb CALL1 y0 y1 y2 y3 y4 y5 y6 y7 z0 z1 z2 z3 z4 z5 z6 z7 BT BV
  obtain ⟨y0, y1, y2, y3, y4, y5, y6, y7⟩ := BT2.out
  obtain ⟨z0, z1, z2, z3, z4, z5, z6, z7⟩ := BV2.out
  cases s
  · have HZ := hide (show b = false by
      rw [← HB.out]; refine sameB_no fun h => ?_
      have := HSS.out; rw [h] at this; simp at this)
    go_wp2
    go_ret
    exact ⟨by have e := HZ.out; subst e; rfl, K2.out⟩
  have CALL2 := hide (HI.out y.kids w2 _ _ (HS.out.far K2.out) (HK.out.far K2.out))
  obtain ⟨r, hr⟩ : ∃ z, sameBs x.kids y.kids = z := ⟨_, rfl⟩
  rw [hr] at CALL2
  have HRR := hide hr
  clear hr
  go_wp2_with fail
  with_reducible refine CALL2.out.mono ?_
  rintro e w3 ⟨rfl, hb⟩
  have K3 := hide (below_trans K2.out hb)
  clear hb CALL2 y0 y1 y2 y3 y4 y5 y6 y7 z0 z1 z2 z3 z4 z5 z6 z7
  have HZ := hide (show b = r by
    have h3 := HSS.out
    rw [Bool.and_eq_true] at h3
    have h4 := eq_of_beq h3.1
    have h5 := of_decide_eq_true h3.2
    rw [← HB.out, ← HRR.out]
    cases hq : sameBs x.kids y.kids with
    | true => exact sameB_yes (vext EQ.out.1 EQ.out.2.1 h4 h5 EQ.out.2.2.1 EQ.out.2.2.2.1 (HTE.out EQ.out.2.2.2.2) (sameBs_eq hq))
    | false => exact sameB_no fun h => sameBs_ne hq (by rw [h]))
  go_wp2
  go_ret
  exact ⟨by have e := HZ.out; subst e; rfl, K3.out⟩
set_option maxHeartbeats 16000000 in
set_option maxRecDepth 100000 in
theorem sas_step {xs : List Va} (ih : ∀ x ∈ xs, SaOf x) : SasOf xs := by
  intro ys w u v hu hv
  have HU := hide hu
  have HV := hide hv
  obtain ⟨ao1, cap1, rfl, hc1, hcm1⟩ := hu.len
  obtain ⟨ao2, cap2, rfl, hc2, hcm2⟩ := hv.len
  obtain ⟨b, hb⟩ : ∃ z, sameBs xs ys = z := ⟨_, rfl⟩
  rw [hb]
  have HB0 := hide hb
  clear hb
  by_cases hle : xs.length = ys.length
  rotate_left
  · have HZ := hide (show b = false by rw [← HB0.out]; exact sameBs_no fun h => hle (by rw [h]))
    obtain ⟨n, hnn⟩ : ∃ n, xs.length = n := ⟨_, rfl⟩
    obtain ⟨m, hmm⟩ : ∃ n, ys.length = n := ⟨_, rfl⟩
    rw [hnn] at hle hc1 ⊢
    rw [hmm] at hle hc2 ⊢
    have q0 : ¬ (n : Int) = (m : Int) := by omega
    have q1 : ((n : Int) == (m : Int)) = false := beq_eq_false_iff_ne.2 q0
    have q2 : ((n : Int) != (m : Int)) = true := by rw [bne, q1]; rfl
    clear hu hv ih HU HV HB0 hnn hmm
    have K := Below.refl w.heap.size w
    have HK := hide K
    clear K
    go_enter Tryz.func60, Tryz.ntmps60
    go_wp2
    go_ret
    exact ⟨by have e := HZ.out; subst e; rfl, HK.out⟩
  obtain ⟨n, hnn⟩ : ∃ n, xs.length = n := ⟨_, rfl⟩
  have hn2 : ys.length = n := by omega
  rw [hnn] at HU hc1 ⊢
  rw [hn2] at HV hc2 ⊢
  have HNN := hide hnn
  have HN2 := hide hn2
  have HI := hide ih
  clear hu hv hnn ih hle hn2
  go_enter Tryz.func60, Tryz.ntmps60
  go_wp2
  go_loopw [5] (fun iv wr => ∃ j : Nat, j ≤ n ∧ iv = .int .i64 j ∧ Hid (xs.take j = ys.take j) ∧ Hid (Below w.heap.size w wr)) (fun iv _ => n - (intOf iv).toNat)
  case atStart => exact ⟨0, by omega, rfl, hide rfl, hide (Below.refl _ _)⟩
  case round =>
    obtain ⟨j, hj, rfl, HTK, HB⟩ := hrel
    by_cases q : j < n
    · have q0 : (j : Int) < (n : Int) := by omega
      have hjx : j < xs.length := by rw [HNN.out]; exact q
      have hjy : j < ys.length := by rw [HN2.out]; exact q
      obtain ⟨b1, o1, vm1, vk1, rfl, hb1, cc1, hm1, hk1, hw1⟩ := VaSl.at (HU.out.far HB.out) (by rw [HNN.out]) hjx
      obtain ⟨b2, o2, vm2, vk2, rfl, hb2, cc2, hm2, hk2, hw2⟩ := VaSl.at (HV.out.far HB.out) (by rw [HN2.out]) hjy
      have HYM := hide (show xs[j] ∈ xs from List.getElem_mem hjx)
      have HJ := hide (show (xs.take (j + 1) = ys.take (j + 1)) ↔ xs[j] = ys[j] by
        rw [List.take_succ_eq_append_getElem hjx, List.take_succ_eq_append_getElem hjy, HTK.out, List.append_cancel_left_eq, List.cons.injEq]
        exact ⟨fun h => h.1, fun h => ⟨h, rfl⟩⟩)
      generalize xs[j] = y at *
      generalize ys[j] = z at *
      have TW := hide (show VaRd wr (vaV y vm1 vk1) y from ⟨⟨_, _, rfl, hm1, hk1⟩, hw1⟩)
      have RD := hide (show VaRd wr (vaV z vm2 vk2) z from ⟨⟨_, _, rfl, hm2, hk2⟩, hw2⟩)
      have CALL := hide (fun (u : World) (hu : Below wr.heap.size wr u) => HI.out y HYM.out z u _ _ (TW.out.far hu) (RD.out.far hu))
      have TC := hide (fun (u : World) (hu : Below wr.heap.size wr u) => cc1.below hu hb1)
      have LC := hide (fun (u : World) (hu : Below wr.heap.size wr u) => cc2.below hu hb2)
      obtain ⟨mo1, mc1, rfl, -⟩ : ∃ ao cap, vm1 = .slice ao y.mag.length cap ∧ True := by obtain ⟨ao, cap, h, _⟩ := hm1; exact ⟨ao, cap, h, trivial⟩
      obtain ⟨ko1, kc1, rfl, -⟩ := hk1.len
      obtain ⟨mo2, mc2, rfl, -⟩ : ∃ ao cap, vm2 = .slice ao z.mag.length cap ∧ True := by obtain ⟨ao, cap, h, _⟩ := hm2; exact ⟨ao, cap, h, trivial⟩
      obtain ⟨ko2, kc2, rfl, -⟩ := hk2.len
      have TC2 := hide (fun (u : World) (hu : Below wr.heap.size wr u) => (show u.cell? ⟨b1, o1 + j * 8, none⟩ = some (.int .i8 y.kind) ∧ u.cell? ⟨b1, o1 + j * 8 + 1, none⟩ = some (.int .u64 y.n) ∧ u.cell? ⟨b1, o1 + j * 8 + 2, none⟩ = some (.bool y.neg) ∧ u.cell? ⟨b1, o1 + j * 8 + 3, none⟩ = some (.slice mo1 y.mag.length mc1) ∧ u.cell? ⟨b1, o1 + j * 8 + 4, none⟩ = some (.int .u64 y.bits) ∧ u.cell? ⟨b1, o1 + j * 8 + 5, none⟩ = some (.int .i8 y.ext) ∧ u.cell? ⟨b1, o1 + j * 8 + 6, none⟩ = some (.string (strOfNums y.text)) ∧ u.cell? ⟨b1, o1 + j * 8 + 7, none⟩ = some (.slice ko1 y.kids.length kc1) ∧ u.cell? ⟨b2, o2 + j * 8, none⟩ = some (.int .i8 z.kind) ∧ u.cell? ⟨b2, o2 + j * 8 + 1, none⟩ = some (.int .u64 z.n) ∧ u.cell? ⟨b2, o2 + j * 8 + 2, none⟩ = some (.bool z.neg) ∧ u.cell? ⟨b2, o2 + j * 8 + 3, none⟩ = some (.slice mo2 z.mag.length mc2) ∧ u.cell? ⟨b2, o2 + j * 8 + 4, none⟩ = some (.int .u64 z.bits) ∧ u.cell? ⟨b2, o2 + j * 8 + 5, none⟩ = some (.int .i8 z.ext) ∧ u.cell? ⟨b2, o2 + j * 8 + 6, none⟩ = some (.string (strOfNums z.text)) ∧ u.cell? ⟨b2, o2 + j * 8 + 7, none⟩ = some (.slice ko2 z.kids.length kc2) from by
        have p := TC.out u hu
        have q := LC.out u hu
        exact ⟨p.c0, p.c1, p.c2, p.c3, p.c4, p.c5, p.c6, p.c7, q.c0, q.c1, q.c2, q.c3, q.c4, q.c5, q.c6, q.c7⟩))
      unfold vaV at CALL
      obtain ⟨n1, hn1⟩ : ∃ n, y.mag.length = n := ⟨_, rfl⟩
      obtain ⟨l1, hl1⟩ : ∃ n, y.kids.length = n := ⟨_, rfl⟩
      obtain ⟨n2, hn2⟩ : ∃ n, z.mag.length = n := ⟨_, rfl⟩
      obtain ⟨l2, hl2⟩ : ∃ n, z.kids.length = n := ⟨_, rfl⟩
      obtain ⟨ty, hty⟩ : ∃ t, strOfNums y.text = t := ⟨_, rfl⟩
      obtain ⟨tz, htz⟩ : ∃ t, strOfNums z.text = t := ⟨_, rfl⟩
      obtain ⟨r, hr⟩ : ∃ t, sameB y z = t := ⟨_, rfl⟩
      rw [hn1, hl1, hty, hn2, hl2, htz, hr] at CALL
      rw [hn1, hl1, hty, hn2, hl2, htz] at TC2
      have HR := hide hr
      clear hm1 hk1 hw1 hm2 hk2 hw2 TW RD TC LC cc1 cc2 hn1 hl1 hty hn2 hl2 htz hr
      go_upto_region 6 with fail
      have CC : ∀ u : World, Below wr.heap.size wr u → u.cell? ⟨b1, o1 + j * 8, none⟩ = some (.int .i8 y.kind) ∧ u.cell? ⟨b1, o1 + j * 8 + 1, none⟩ = some (.int .u64 y.n) ∧ u.cell? ⟨b1, o1 + j * 8 + 2, none⟩ = some (.bool y.neg) ∧ u.cell? ⟨b1, o1 + j * 8 + 3, none⟩ = some (.slice mo1 n1 mc1) ∧ u.cell? ⟨b1, o1 + j * 8 + 4, none⟩ = some (.int .u64 y.bits) ∧ u.cell? ⟨b1, o1 + j * 8 + 5, none⟩ = some (.int .i8 y.ext) ∧ u.cell? ⟨b1, o1 + j * 8 + 6, none⟩ = some (.string ty) ∧ u.cell? ⟨b1, o1 + j * 8 + 7, none⟩ = some (.slice ko1 l1 kc1) ∧ u.cell? ⟨b2, o2 + j * 8, none⟩ = some (.int .i8 z.kind) ∧ u.cell? ⟨b2, o2 + j * 8 + 1, none⟩ = some (.int .u64 z.n) ∧ u.cell? ⟨b2, o2 + j * 8 + 2, none⟩ = some (.bool z.neg) ∧ u.cell? ⟨b2, o2 + j * 8 + 3, none⟩ = some (.slice mo2 n2 mc2) ∧ u.cell? ⟨b2, o2 + j * 8 + 4, none⟩ = some (.int .u64 z.bits) ∧ u.cell? ⟨b2, o2 + j * 8 + 5, none⟩ = some (.int .i8 z.ext) ∧ u.cell? ⟨b2, o2 + j * 8 + 6, none⟩ = some (.string tz) ∧ u.cell? ⟨b2, o2 + j * 8 + 7, none⟩ = some (.slice ko2 l2 kc2) := fun u hu => TC2.out u hu
      have K : Below wr.heap.size wr wr.drew := (Below.refl _ _).drew
      have HC0 := CC _ K
      refine wpHl.region0 (C := fun u => u.cell? ⟨b1, o1 + j * 8, none⟩ = some (.int .i8 y.kind) ∧ u.cell? ⟨b1, o1 + j * 8 + 1, none⟩ = some (.int .u64 y.n) ∧ u.cell? ⟨b1, o1 + j * 8 + 2, none⟩ = some (.bool y.neg) ∧ u.cell? ⟨b1, o1 + j * 8 + 3, none⟩ = some (.slice mo1 n1 mc1) ∧ u.cell? ⟨b1, o1 + j * 8 + 4, none⟩ = some (.int .u64 y.bits) ∧ u.cell? ⟨b1, o1 + j * 8 + 5, none⟩ = some (.int .i8 y.ext) ∧ u.cell? ⟨b1, o1 + j * 8 + 6, none⟩ = some (.string ty) ∧ u.cell? ⟨b1, o1 + j * 8 + 7, none⟩ = some (.slice ko1 l1 kc1) ∧ u.cell? ⟨b2, o2 + j * 8, none⟩ = some (.int .i8 z.kind) ∧ u.cell? ⟨b2, o2 + j * 8 + 1, none⟩ = some (.int .u64 z.n) ∧ u.cell? ⟨b2, o2 + j * 8 + 2, none⟩ = some (.bool z.neg) ∧ u.cell? ⟨b2, o2 + j * 8 + 3, none⟩ = some (.slice mo2 n2 mc2) ∧ u.cell? ⟨b2, o2 + j * 8 + 4, none⟩ = some (.int .u64 z.bits) ∧ u.cell? ⟨b2, o2 + j * 8 + 5, none⟩ = some (.int .i8 z.ext) ∧ u.cell? ⟨b2, o2 + j * 8 + 6, none⟩ = some (.string tz) ∧ u.cell? ⟨b2, o2 + j * 8 + 7, none⟩ = some (.slice ko2 l2 kc2)) (by kernel_rfl) (by kernel_rfl) (fun HS => ?_)
      refine wpHl.tk0 (i := 0) (d := some 17) (v := .slice (some ⟨b1, o1, none⟩) n cap1) rfl HS (by as_aux_lemma => kernel_rfl) rfl (fun _ _ _ h => h) (Or.inl ⟨by rfl, ?_⟩) HC0 ?_
      · intro u hC
        go_simp
      simp only [Act.put, List.setIfInBounds_toArray, List.set_cons_zero, List.set_cons_succ]
      refine wpHl.tk0 (i := 1) (d := some 18) (v := .int .i64 j) rfl HS (by as_aux_lemma => kernel_rfl) rfl (fun _ _ _ h => h) (Or.inl ⟨by rfl, ?_⟩) HC0 ?_
      · intro u hC
        go_simp
      simp only [Act.put, List.setIfInBounds_toArray, List.set_cons_zero, List.set_cons_succ]
      refine wpHl.tk0 (i := 2) (d := some 19) (v := .pointer (some ⟨b1, o1 + j * 8, none⟩)) rfl HS (by as_aux_lemma => kernel_rfl) rfl (fun _ _ _ h => h) (Or.inl ⟨by rfl, ?_⟩) HC0 ?_
      · intro u hC
        go_simp
      simp only [Act.put, List.setIfInBounds_toArray, List.set_cons_zero, List.set_cons_succ]
      refine wpHl.tk0 (i := 3) (d := some 20) (v := .agg #[.int .i8 y.kind, .int .u64 y.n, .bool y.neg, .slice mo1 n1 mc1, .int .u64 y.bits, .int .i8 y.ext, .string ty, .slice ko1 l1 kc1]) rfl HS (by as_aux_lemma => kernel_rfl) rfl (fun _ _ _ h => h) (Or.inl ⟨by rfl, ?_⟩) HC0 ?_
      · intro u hC
        obtain ⟨z0, z1, z2, z3, z4, z5, z6, z7, z8, z9, z10, z11, z12, z13, z14, z15⟩ := hC
        go_simp
      simp only [Act.put, List.setIfInBounds_toArray, List.set_cons_zero, List.set_cons_succ]
      refine wpHl.tk0 (i := 4) (d := some 21) (v := .slice (some ⟨b2, o2, none⟩) n cap2) rfl HS (by as_aux_lemma => kernel_rfl) rfl (fun _ _ _ h => h) (Or.inl ⟨by rfl, ?_⟩) HC0 ?_
      · intro u hC
        go_simp
      simp only [Act.put, List.setIfInBounds_toArray, List.set_cons_zero, List.set_cons_succ]
      refine wpHl.tk0 (i := 5) (d := some 22) (v := .int .i64 j) rfl HS (by as_aux_lemma => kernel_rfl) rfl (fun _ _ _ h => h) (Or.inl ⟨by rfl, ?_⟩) HC0 ?_
      · intro u hC
        go_simp
      simp only [Act.put, List.setIfInBounds_toArray, List.set_cons_zero, List.set_cons_succ]
      refine wpHl.tk0 (i := 6) (d := some 23) (v := .pointer (some ⟨b2, o2 + j * 8, none⟩)) rfl HS (by as_aux_lemma => kernel_rfl) rfl (fun _ _ _ h => h) (Or.inl ⟨by rfl, ?_⟩) HC0 ?_
      · intro u hC
        go_simp
      simp only [Act.put, List.setIfInBounds_toArray, List.set_cons_zero, List.set_cons_succ]
      refine wpHl.tk0 (i := 7) (d := some 24) (v := .agg #[.int .i8 z.kind, .int .u64 z.n, .bool z.neg, .slice mo2 n2 mc2, .int .u64 z.bits, .int .i8 z.ext, .string tz, .slice ko2 l2 kc2]) rfl HS (by as_aux_lemma => kernel_rfl) rfl (fun _ _ _ h => h) (Or.inl ⟨by rfl, ?_⟩) HC0 ?_
      · intro u hC
        obtain ⟨z0, z1, z2, z3, z4, z5, z6, z7, z8, z9, z10, z11, z12, z13, z14, z15⟩ := hC
        go_simp
      simp only [Act.put, List.setIfInBounds_toArray, List.set_cons_zero, List.set_cons_succ]
      refine wpHl.one (i := 8) (by as_aux_lemma => kernel_rfl) rfl (fun K1 hK1 => ?_)
      rw [if_pos (by rfl)]
      refine wp_call_of (f := 23) (args := #[.agg #[.int .i8 y.kind, .int .u64 y.n, .bool y.neg, .slice mo1 n1 mc1, .int .u64 y.bits, .int .i8 y.ext, .string ty, .slice ko1 l1 kc1], .agg #[.int .i8 z.kind, .int .u64 z.n, .bool z.neg, .slice mo2 n2 mc2, .int .u64 z.bits, .int .i8 z.ext, .string tz, .slice ko2 l2 kc2]]) (by kernel_rfl) ?_
      with_reducible refine (CALL.out _ K).mono ?_
      rintro e wn ⟨rfl, hb⟩
      replace K := below_trans K hb
      clear HC0
      have HC0 := CC _ K
      refine hK1 (Act.put _ (some 25) _) _ ⟨fun _ => HC0, ?_⟩
      clear hK1 K1 hb
      try simp only [Act.put, List.setIfInBounds_toArray, List.set_cons_zero, List.set_cons_succ]
      refine wpHl.tk0 (i := 9) (d := some 26) (v := .bool (!r)) rfl HS (by as_aux_lemma => kernel_rfl) rfl (fun _ _ _ h => h) (Or.inl ⟨by rfl, ?_⟩) HC0 ?_
      · intro u hC
        go_simp
      simp only [Act.put, List.setIfInBounds_toArray, List.set_cons_zero, List.set_cons_succ]
      refine wpHl.done (by as_aux_lemma => kernel_rfl) ?_ _
      clear CC HC0 HS
      replace HB := hide (below_trans HB.out K)
      clear K CALL TC2
      cases r
      · have HZ := hide (show b = false by
          rw [← HB0.out]
          refine sameBs_no fun h => sameB_ne HR.out (HJ.out.1 (by rw [h])))
        simp only [Bool.not_false]
        go_wp2
        go_ret
        exact ⟨by have e := HZ.out; subst e; rfl, HB.out⟩
      have HTK2 := hide (HJ.out.2 (sameB_eq HR.out))
      simp only [Bool.not_true]
      go_wp2
      go_roundw
      case rel => exact ⟨j + 1, by omega, by go_num, HTK2, HB⟩
      case measure => simp [intOf]; omega
    · have q0 : ¬ (j : Int) < (n : Int) := by omega
      have HZ := hide (show b = true by
        rw [← HB0.out]
        refine sameBs_yes ?_
        have := HTK.out
        rw [List.take_of_length_le (by have := HNN.out; omega), List.take_of_length_le (by have := HN2.out; omega)] at this
        exact this)
      go_wp2
      go_ret
      exact ⟨by have e := HZ.out; subst e; rfl, HB.out⟩
theorem sav_size : ∀ (N : Nat) (x : Va), SizeOf.sizeOf x ≤ N → SaOf x
  | 0, x, h => by cases x; simp at h
  | N + 1, x, h => sav_step (sas_step fun y hy => sav_size N y (by
      have h3 := List.sizeOf_lt_of_mem hy
      have h4 : SizeOf.sizeOf x.kids < SizeOf.sizeOf x := by
        cases x
        simp only [Va.kids, Va.mk.sizeOf_spec]
        omega
      omega))
theorem sav_any {x : Va} : SaOf x := sav_size _ x (Nat.le_refl _)
end Go.Proofs.YticmlelalbaalaaGreatDoor
