import Derived.Test.YticmlelalbaalaaGreatDoorB24
import Derived.Test.YticmlelalbaalaaGreatDoorB08
import Derived.Test.YticmlelalbaalaaGreatDoorB22
import Derived.Test.YticmlelalbaalaaGreatDoorB19
namespace Go.Proofs.YticmlelalbaalaaGreatDoor
open Go.RowKit
set_option linter.unusedVariables false
theorem cells8T {u : World} {b : Nat} {a0 a1 a2 a3 a4 a5 a6 a7 : Value} {t : TypeId} (h : u.heap[b]? = some (.cells #[a0, a1, a2, a3, a4, a5, a6, a7] t (0, 0))) :
    u.cell? ⟨b, 0, none⟩ = some a0 ∧ u.cell? ⟨b, 1, none⟩ = some a1 ∧ u.cell? ⟨b, 2, none⟩ = some a2 ∧ u.cell? ⟨b, 3, none⟩ = some a3 ∧ u.cell? ⟨b, 4, none⟩ = some a4 ∧ u.cell? ⟨b, 5, none⟩ = some a5 ∧ u.cell? ⟨b, 6, none⟩ = some a6 ∧ u.cell? ⟨b, 7, none⟩ = some a7 ∧
    u.frozen? ⟨b, 0, none⟩ = false ∧ u.frozen? ⟨b, 1, none⟩ = false ∧ u.frozen? ⟨b, 2, none⟩ = false ∧ u.frozen? ⟨b, 3, none⟩ = false ∧ u.frozen? ⟨b, 4, none⟩ = false ∧ u.frozen? ⟨b, 5, none⟩ = false ∧ u.frozen? ⟨b, 6, none⟩ = false ∧ u.frozen? ⟨b, 7, none⟩ = false := by
  refine ⟨?_, ?_, ?_, ?_, ?_, ?_, ?_, ?_, ?_, ?_, ?_, ?_, ?_, ?_, ?_, ?_⟩ <;> simp [World.cell?, World.frozen?, h]
theorem results_cellT {fn : Func} {p : Tmp} {ty : TypeId} (h : fn.results = #[.cell p ty]) (tmps : Array Value) (P : Program) (w : World) :
    (results fn tmps).run P w = ((asAddr (tmps.getD p undef)).run P w).andThen fun a w₁ => (loadVar ty a).run P w₁ := by
  simp only [results, h]
  simp [Sem.run_bind, Result.andThen]
def put8 (w : World) (b o : Nat) (v0 v1 v2 v3 v4 v5 v6 v7 : Value) : World := (((((((w.setCell ⟨b, o, none⟩ v0).setCell ⟨b, o + 1, none⟩ v1).setCell ⟨b, o + 2, none⟩ v2).setCell ⟨b, o + 3, none⟩ v3).setCell ⟨b, o + 4, none⟩ v4).setCell ⟨b, o + 5, none⟩ v5).setCell ⟨b, o + 6, none⟩ v6).setCell ⟨b, o + 7, none⟩ v7
theorem put8_below {B b o : Nat} {w w4 : World} {v0 v1 v2 v3 v4 v5 v6 v7 : Value} (h : Below B w w4) (hb : B ≤ b) : Below B w (put8 w4 b o v0 v1 v2 v3 v4 v5 v6 v7) :=
  (((((((h.setCell (p := ⟨b, _, none⟩) hb v0).setCell (p := ⟨b, _, none⟩) hb v1).setCell (p := ⟨b, _, none⟩) hb v2).setCell (p := ⟨b, _, none⟩) hb v3).setCell (p := ⟨b, _, none⟩) hb v4).setCell (p := ⟨b, _, none⟩) hb v5).setCell (p := ⟨b, _, none⟩) hb v6).setCell (p := ⟨b, _, none⟩) hb v7
theorem set1_sameT {w : World} {b o : Nat} {v : Value} {j : Nat} (h : j ≠ b) : (w.setCell ⟨b, o, none⟩ v).heap[j]? = w.heap[j]? := Below.heap_setCell w ⟨b, o, none⟩ v j h
theorem put8_same {W : World} {b o : Nat} {v0 v1 v2 v3 v4 v5 v6 v7 : Value} {j : Nat} (h : j ≠ b) : (put8 W b o v0 v1 v2 v3 v4 v5 v6 v7).heap[j]? = W.heap[j]? := by
  unfold put8
  rw [set1_sameT h, set1_sameT h, set1_sameT h, set1_sameT h, set1_sameT h, set1_sameT h, set1_sameT h, set1_sameT h]
theorem own_same {w w' : World} {B b : Nat} {e : TypeId} {s n : Nat} {v : Value} {xs : List Value} (h : w.ownsRow B e s v n xs) (hb : b < B) (hs : ∀ j, j ≠ b → w'.heap[j]? = w.heap[j]?) : w'.ownsRow B e s v n xs := by
  obtain ⟨h0, h1 | ⟨g, cap, cur, rfl, h2, h3, h4⟩⟩ := h
  · exact ⟨h0, .inl h1⟩
  · exact ⟨h0, .inr ⟨g, cap, cur, rfl, h2, (hs g (by omega)).trans h3, h4⟩⟩
theorem flat_set8 (q : Va × Value × Value) : ∀ (zs : List (Va × Value × Value)) (i : Nat), i < zs.length → ∀ a0 a1 a2 a3 a4 a5 a6 a7, vaL q.1 q.2.1 q.2.2 = [a0, a1, a2, a3, a4, a5, a6, a7] →
    ((((((((flatV zs).set (i * 8) a0).set (i * 8 + 1) a1).set (i * 8 + 2) a2).set (i * 8 + 3) a3).set (i * 8 + 4) a4).set (i * 8 + 5) a5).set (i * 8 + 6) a6).set (i * 8 + 7) a7 = flatV (zs.set i q)
  | [], i, h, _, _, _, _, _, _, _, _, _ => by simp at h
  | p :: zs, 0, h, a0, a1, a2, a3, a4, a5, a6, a7, e => by
    rw [List.set_cons_zero, flatV_cons, flatV_cons, e]
    rfl
  | p :: zs, i + 1, h, a0, a1, a2, a3, a4, a5, a6, a7, e => by
    have ih := flat_set8 q zs i (by simpa using h) a0 a1 a2 a3 a4 a5 a6 a7 e
    have hs : ∀ (l : List Value) (j : Nat) (u : Value), (vaL p.1 p.2.1 p.2.2 ++ l).set (j + 8) u = vaL p.1 p.2.1 p.2.2 ++ l.set j u := fun l j u => by
      rw [List.set_append_right _ _ (by simp [vaL])]
      simp [vaL]
    rw [List.set_cons_succ, flatV_cons, flatV_cons, ← ih]
    rw [show (i + 1) * 8 = i * 8 + 8 by omega]
    rw [show i * 8 + 8 + 1 = i * 8 + 1 + 8 by omega, show i * 8 + 8 + 2 = i * 8 + 2 + 8 by omega, show i * 8 + 8 + 3 = i * 8 + 3 + 8 by omega, show i * 8 + 8 + 4 = i * 8 + 4 + 8 by omega, show i * 8 + 8 + 5 = i * 8 + 5 + 8 by omega, show i * 8 + 8 + 6 = i * 8 + 6 + 8 by omega, show i * 8 + 8 + 7 = i * 8 + 7 + 8 by omega]
    rw [hs, hs, hs, hs, hs, hs, hs, hs]
theorem own_put8 {w : World} {B g n cap : Nat} {zs : List (Va × Value × Value)} (h : w.ownsRow B 31 8 (.slice (some ⟨g, 0, none⟩) n cap) n (flatV zs)) {i : Nat} (hi : i < zs.length) (q : Va × Value × Value) {a0 a1 a2 a3 a4 a5 a6 a7 : Value} (e : vaL q.1 q.2.1 q.2.2 = [a0, a1, a2, a3, a4, a5, a6, a7]) :
    (put8 w g (i * 8) a0 a1 a2 a3 a4 a5 a6 a7).ownsRow B 31 8 (.slice (some ⟨g, 0, none⟩) n cap) n (flatV (zs.set i q)) := by
  rw [← flat_set8 q zs i hi a0 a1 a2 a3 a4 a5 a6 a7 e]
  exact (((((((((h.stored _ a0).1.stored _ a1).1.stored _ a2).1.stored _ a3).1.stored _ a4).1.stored _ a5).1.stored _ a6).1).stored _ a7).1
theorem own_c8 {w : World} {B g n cap : Nat} {zs : List (Va × Value × Value)} (h : w.ownsRow B 31 8 (.slice (some ⟨g, 0, none⟩) n cap) n (flatV zs)) {i : Nat} (hi : i < zs.length) : VaC w g (i * 8) zs[i].1 zs[i].2.1 zs[i].2.2 := by
  have hn : n * 8 = zs.length * 8 := by have := h.1; rw [flatV_len] at this; omega
  have hc := fun j (hj : j < 8) => (h.cellAt (i * 8 + j) (by omega)).trans (flatV_at zs i hi j hj)
  exact ⟨(hc 0 (by omega)).trans rfl, (hc 1 (by omega)).trans rfl, (hc 2 (by omega)).trans rfl, (hc 3 (by omega)).trans rfl, (hc 4 (by omega)).trans rfl, (hc 5 (by omega)).trans rfl, (hc 6 (by omega)).trans rfl, (hc 7 (by omega)).trans rfl⟩
end Go.Proofs.YticmlelalbaalaaGreatDoor
namespace Go.Proofs.YticmlelalbaalaaGreatDoor
open Go.RowKit
set_option linter.unusedVariables false
set_option linter.unusedSimpArgs false
end Go.Proofs.YticmlelalbaalaaGreatDoor
namespace Go.Proofs.YticmlelalbaalaaGreatDoor
open Go.RowKit
set_option linter.unusedVariables false
set_option maxHeartbeats 4000000 in
theorem sameint_any {w : World} {g1 g2 : Bool} {m1 m2 : Value} {xs ys : List Int} (h1 : Reads .u32 w m1 xs) (h2 : Reads .u32 w m2 ys) : Calls Tryz.prog 59 #[.agg #[.bool g1, m1], .agg #[.bool g2, m2]] w fun e' w' => e' = .returned (.bool (g1 == g2 && decide (xs = ys))) ∧ Below w.heap.size w w' := by
  have H1 := hide h1
  have H2 := hide h2
  obtain ⟨o1, c1, rfl, -⟩ := h1
  obtain ⟨o2, c2, rfl, -⟩ := h2
  generalize hx : xs.length = l1 at *
  generalize hy : ys.length = l2 at *
  clear hx hy
  by_cases hg : g1 = g2
  · subst hg
    have hgg : (g1 == g1) = true := by simp
    have HE := hide (show (g1 == g1 && decide (xs = ys)) = decide (xs = ys) by rw [hgg, Bool.true_and])
    go_enter Tryz.func59, Tryz.ntmps59
    go_wp2_with fail
    have K1 := bel_new w (.cells #[.bool g1, .slice o1 l1 c1] 28)
    have K2 := bel_new (w.alloc (.cells #[.bool g1, .slice o1 l1 c1] 28)) (.cells #[.bool g1, .slice o2 l2 c2] 28)
    have KK := hide (below_trans K1 K2)
    clear K1 K2
    with_reducible refine (same_any (H1.out.below KK.out) (H2.out.below KK.out)).mono ?_
    rintro e w2 ⟨rfl, K3⟩
    have KZ := hide (below_trans KK.out K3)
    clear K3
    go_wp2
    go_ret
    exact ⟨by rw [HE.out]; rfl, KZ.out⟩
  · have hgg : (g1 == g2) = false := by simp [hg]
    have HE := hide (show (g1 == g2 && decide (xs = ys)) = false by rw [hgg, Bool.false_and])
    go_enter Tryz.func59, Tryz.ntmps59
    go_wp2
    go_ret
    exact ⟨by rw [HE.out]; rfl, (bel_new _ _).alloc (by simp) _⟩
end Go.Proofs.YticmlelalbaalaaGreatDoor
namespace Go.Proofs.YticmlelalbaalaaGreatDoor
open Go.RowKit
set_option linter.unusedVariables false
set_option linter.unusedSimpArgs false
theorem sint_self {w : World} {g : Bool} {m1 m2 : Value} {xs : List Int} (h1 : Reads .u32 w m1 xs) (h2 : Reads .u32 w m2 xs) : Calls Tryz.prog 59 #[.agg #[.bool g, m1], .agg #[.bool g, m2]] w fun e' w' => e' = .returned (.bool true) ∧ Below w.heap.size w w' :=
  (sameint_any h1 h2).mono fun e w' h => ⟨h.1.trans (by simp), h.2⟩
def SmsOf (xs : List Va) : Prop := ∀ (w : World) (u v : Value), VaSl w u xs → VaSl w v xs → Calls Tryz.prog 60 #[u, v] w fun e w' => e = .returned (.bool true) ∧ Below w.heap.size w w'
def SmOf (x : Va) : Prop := ∀ (w : World) (u v : Value), VaRd w u x → VaRd w v x → Calls Tryz.prog 23 #[u, v] w fun e w' => e = .returned (.bool true) ∧ Below w.heap.size w w'
set_option maxHeartbeats 16000000 in
set_option maxRecDepth 100000 in
theorem smv_step {x : Va} (ih : SmsOf x.kids) : SmOf x := by
  intro w u v hu hv
  unfold SmsOf at ih
  have HI := hide ih
  obtain ⟨⟨tm, tk, rfl, hT, hS⟩, hw⟩ := hu
  obtain ⟨⟨vm, vk, rfl, hm, hk⟩, -⟩ := hv
  have HT := hide hT
  have HS := hide hS
  have HM := hide hm
  have HK := hide hk
  obtain ⟨mo1, mc1, rfl, -⟩ : ∃ ao cap, tm = .slice ao x.mag.length cap ∧ True := by obtain ⟨ao, cap, h, _⟩ := hT; exact ⟨ao, cap, h, trivial⟩
  obtain ⟨ko1, kc1, rfl, -⟩ := hS.len
  obtain ⟨mo2, mc2, rfl, -⟩ : ∃ ao cap, vm = .slice ao x.mag.length cap ∧ True := by obtain ⟨ao, cap, h, _⟩ := hm; exact ⟨ao, cap, h, trivial⟩
  obtain ⟨ko2, kc2, rfl, -⟩ := hk.len
  unfold vaV
  obtain ⟨n1, hn1⟩ : ∃ n, x.mag.length = n := ⟨_, rfl⟩
  obtain ⟨l1, hl1⟩ : ∃ n, x.kids.length = n := ⟨_, rfl⟩
  obtain ⟨tx, htx⟩ : ∃ t, strOfNums x.text = t := ⟨_, rfl⟩
  rw [hn1] at HT HM ⊢
  rw [hl1] at HS HK ⊢
  rw [htx]
  clear hS hw hm hk hT ih hn1 hl1 htx
  have K1 := hide (below_trans (bel_new w (.cells #[.int .i8 x.kind, .int .u64 x.n, .bool x.neg, .slice mo1 n1 mc1, .int .u64 x.bits, .int .i8 x.ext, .string tx, .slice ko1 l1 kc1] 31)) (bel_new (w.alloc (.cells #[.int .i8 x.kind, .int .u64 x.n, .bool x.neg, .slice mo1 n1 mc1, .int .u64 x.bits, .int .i8 x.ext, .string tx, .slice ko1 l1 kc1] 31)) (.cells #[.int .i8 x.kind, .int .u64 x.n, .bool x.neg, .slice mo2 n1 mc2, .int .u64 x.bits, .int .i8 x.ext, .string tx, .slice ko2 l1 kc2] 31)))
  have BT := hide ((box8_new w (.int .i8 x.kind) (.int .u64 x.n) (.bool x.neg) (.slice mo1 n1 mc1) (.int .u64 x.bits) (.int .i8 x.ext) (.string tx) (.slice ko1 l1 kc1) 31).below (bel_new (w.alloc (.cells #[.int .i8 x.kind, .int .u64 x.n, .bool x.neg, .slice mo1 n1 mc1, .int .u64 x.bits, .int .i8 x.ext, .string tx, .slice ko1 l1 kc1] 31)) (.cells #[.int .i8 x.kind, .int .u64 x.n, .bool x.neg, .slice mo2 n1 mc2, .int .u64 x.bits, .int .i8 x.ext, .string tx, .slice ko2 l1 kc2] 31)) (by simp))
  have BV := hide (box8_new (w.alloc (.cells #[.int .i8 x.kind, .int .u64 x.n, .bool x.neg, .slice mo1 n1 mc1, .int .u64 x.bits, .int .i8 x.ext, .string tx, .slice ko1 l1 kc1] 31)) (.int .i8 x.kind) (.int .u64 x.n) (.bool x.neg) (.slice mo2 n1 mc2) (.int .u64 x.bits) (.int .i8 x.ext) (.string tx) (.slice ko2 l1 kc2) 31)
  have e1 : (w.alloc (.cells #[.int .i8 x.kind, .int .u64 x.n, .bool x.neg, .slice mo1 n1 mc1, .int .u64 x.bits, .int .i8 x.ext, .string tx, .slice ko1 l1 kc1] 31)).heap.size = w.heap.size + 1 := by simp
  rw [e1] at BV
  go_enter Tryz.func23, Tryz.ntmps23
  go_upto_region 1 with fail
  generalize (w.alloc (.cells #[.int .i8 x.kind, .int .u64 x.n, .bool x.neg, .slice mo1 n1 mc1, .int .u64 x.bits, .int .i8 x.ext, .string tx, .slice ko1 l1 kc1] 31)).alloc (.cells #[.int .i8 x.kind, .int .u64 x.n, .bool x.neg, .slice mo2 n1 mc2, .int .u64 x.bits, .int .i8 x.ext, .string tx, .slice ko2 l1 kc2] 31) = W1 at *
  clear e1
  have lt1 : w.heap.size + 1 < W1.heap.size := vcell_lt BV.out.1
  obtain ⟨y0, y1, y2, y3, y4, y5, y6, y7⟩ := BT.out
  obtain ⟨z0, z1, z2, z3, z4, z5, z6, z7⟩ := BV.out
  have CALL1 := hide (sint_self (g := x.neg) (HT.out.below K1.out) (HM.out.below K1.out))
  go_wp2_with fail
  with_reducible refine CALL1.out.mono ?_
  rintro e w2 ⟨rfl, hb⟩
  have K2 := hide (below_trans K1.out hb)
  have BT2 := hide (BT.out.below hb (by omega))
  have BV2 := hide (BV.out.below hb (by omega))
  clear hb CALL1 y0 y1 y2 y3 y4 y5 y6 y7 z0 z1 z2 z3 z4 z5 z6 z7 BT BV
  obtain ⟨y0, y1, y2, y3, y4, y5, y6, y7⟩ := BT2.out
  obtain ⟨z0, z1, z2, z3, z4, z5, z6, z7⟩ := BV2.out
  have CALL2 := hide (HI.out w2 _ _ (HS.out.far K2.out) (HK.out.far K2.out))
  go_wp2_with fail
  with_reducible refine CALL2.out.mono ?_
  rintro e w3 ⟨rfl, hb⟩
  have K3 := hide (below_trans K2.out hb)
  clear hb CALL2 y0 y1 y2 y3 y4 y5 y6 y7 z0 z1 z2 z3 z4 z5 z6 z7
  go_wp2
  go_ret
  exact ⟨rfl, K3.out⟩
set_option maxHeartbeats 16000000 in
set_option maxRecDepth 100000 in
theorem sms_step {xs : List Va} (ih : ∀ x ∈ xs, SmOf x) : SmsOf xs := by
  intro w u v hu hv
  have HU := hide hu
  have HV := hide hv
  obtain ⟨ao1, cap1, rfl, hc1, hcm1⟩ := hu.len
  obtain ⟨ao2, cap2, rfl, hc2, hcm2⟩ := hv.len
  obtain ⟨n, hnn⟩ : ∃ n, xs.length = n := ⟨_, rfl⟩
  rw [hnn] at HU HV hc1 hc2 ⊢
  have HNN := hide hnn
  have HI := hide ih
  clear hu hv hnn ih
  go_enter Tryz.func60, Tryz.ntmps60
  go_wp2
  go_loopw [5] (fun iv wr => ∃ j : Nat, j ≤ n ∧ iv = .int .i64 j ∧ Hid (Below w.heap.size w wr)) (fun iv _ => n - (intOf iv).toNat)
  case atStart => exact ⟨0, by omega, rfl, hide (Below.refl _ _)⟩
  case round =>
    obtain ⟨j, hj, rfl, HB⟩ := hrel
    by_cases q : j < n
    · have q0 : (j : Int) < (n : Int) := by omega
      have hjx : j < xs.length := by rw [HNN.out]; exact q
      obtain ⟨b1, o1, vm1, vk1, rfl, hb1, cc1, hm1, hk1, hw1⟩ := VaSl.at (HU.out.far HB.out) (by rw [HNN.out]) hjx
      obtain ⟨b2, o2, vm2, vk2, rfl, hb2, cc2, hm2, hk2, hw2⟩ := VaSl.at (HV.out.far HB.out) (by rw [HNN.out]) hjx
      have HYM := hide (show xs[j] ∈ xs from List.getElem_mem hjx)
      generalize xs[j] = y at *
      have TW := hide (show VaRd wr (vaV y vm1 vk1) y from ⟨⟨_, _, rfl, hm1, hk1⟩, hw1⟩)
      have RD := hide (show VaRd wr (vaV y vm2 vk2) y from ⟨⟨_, _, rfl, hm2, hk2⟩, hw2⟩)
      have CALL := hide (fun (u : World) (hu : Below wr.heap.size wr u) => HI.out y HYM.out u _ _ (TW.out.far hu) (RD.out.far hu))
      have TC := hide (fun (u : World) (hu : Below wr.heap.size wr u) => cc1.below hu hb1)
      have LC := hide (fun (u : World) (hu : Below wr.heap.size wr u) => cc2.below hu hb2)
      obtain ⟨mo1, mc1, rfl, -⟩ : ∃ ao cap, vm1 = .slice ao y.mag.length cap ∧ True := by obtain ⟨ao, cap, h, _⟩ := hm1; exact ⟨ao, cap, h, trivial⟩
      obtain ⟨ko1, kc1, rfl, -⟩ := hk1.len
      obtain ⟨mo2, mc2, rfl, -⟩ : ∃ ao cap, vm2 = .slice ao y.mag.length cap ∧ True := by obtain ⟨ao, cap, h, _⟩ := hm2; exact ⟨ao, cap, h, trivial⟩
      obtain ⟨ko2, kc2, rfl, -⟩ := hk2.len
      have TC2 := hide (fun (u : World) (hu : Below wr.heap.size wr u) => (show u.cell? ⟨b1, o1 + j * 8, none⟩ = some (.int .i8 y.kind) ∧ u.cell? ⟨b1, o1 + j * 8 + 1, none⟩ = some (.int .u64 y.n) ∧ u.cell? ⟨b1, o1 + j * 8 + 2, none⟩ = some (.bool y.neg) ∧ u.cell? ⟨b1, o1 + j * 8 + 3, none⟩ = some (.slice mo1 y.mag.length mc1) ∧ u.cell? ⟨b1, o1 + j * 8 + 4, none⟩ = some (.int .u64 y.bits) ∧ u.cell? ⟨b1, o1 + j * 8 + 5, none⟩ = some (.int .i8 y.ext) ∧ u.cell? ⟨b1, o1 + j * 8 + 6, none⟩ = some (.string (strOfNums y.text)) ∧ u.cell? ⟨b1, o1 + j * 8 + 7, none⟩ = some (.slice ko1 y.kids.length kc1) ∧ u.cell? ⟨b2, o2 + j * 8, none⟩ = some (.int .i8 y.kind) ∧ u.cell? ⟨b2, o2 + j * 8 + 1, none⟩ = some (.int .u64 y.n) ∧ u.cell? ⟨b2, o2 + j * 8 + 2, none⟩ = some (.bool y.neg) ∧ u.cell? ⟨b2, o2 + j * 8 + 3, none⟩ = some (.slice mo2 y.mag.length mc2) ∧ u.cell? ⟨b2, o2 + j * 8 + 4, none⟩ = some (.int .u64 y.bits) ∧ u.cell? ⟨b2, o2 + j * 8 + 5, none⟩ = some (.int .i8 y.ext) ∧ u.cell? ⟨b2, o2 + j * 8 + 6, none⟩ = some (.string (strOfNums y.text)) ∧ u.cell? ⟨b2, o2 + j * 8 + 7, none⟩ = some (.slice ko2 y.kids.length kc2) from by
        have p := TC.out u hu
        have q := LC.out u hu
        exact ⟨p.c0, p.c1, p.c2, p.c3, p.c4, p.c5, p.c6, p.c7, q.c0, q.c1, q.c2, q.c3, q.c4, q.c5, q.c6, q.c7⟩))
      unfold vaV at CALL
      obtain ⟨n1, hn1⟩ : ∃ n, y.mag.length = n := ⟨_, rfl⟩
      obtain ⟨l1, hl1⟩ : ∃ n, y.kids.length = n := ⟨_, rfl⟩
      obtain ⟨ty, hty⟩ : ∃ t, strOfNums y.text = t := ⟨_, rfl⟩
      rw [hn1, hl1, hty] at CALL TC2
      clear hm1 hk1 hw1 hm2 hk2 hw2 TW RD TC LC cc1 cc2 hn1 hl1 hty
      go_upto_region 6 with fail
      have CC : ∀ u : World, Below wr.heap.size wr u → u.cell? ⟨b1, o1 + j * 8, none⟩ = some (.int .i8 y.kind) ∧ u.cell? ⟨b1, o1 + j * 8 + 1, none⟩ = some (.int .u64 y.n) ∧ u.cell? ⟨b1, o1 + j * 8 + 2, none⟩ = some (.bool y.neg) ∧ u.cell? ⟨b1, o1 + j * 8 + 3, none⟩ = some (.slice mo1 n1 mc1) ∧ u.cell? ⟨b1, o1 + j * 8 + 4, none⟩ = some (.int .u64 y.bits) ∧ u.cell? ⟨b1, o1 + j * 8 + 5, none⟩ = some (.int .i8 y.ext) ∧ u.cell? ⟨b1, o1 + j * 8 + 6, none⟩ = some (.string ty) ∧ u.cell? ⟨b1, o1 + j * 8 + 7, none⟩ = some (.slice ko1 l1 kc1) ∧ u.cell? ⟨b2, o2 + j * 8, none⟩ = some (.int .i8 y.kind) ∧ u.cell? ⟨b2, o2 + j * 8 + 1, none⟩ = some (.int .u64 y.n) ∧ u.cell? ⟨b2, o2 + j * 8 + 2, none⟩ = some (.bool y.neg) ∧ u.cell? ⟨b2, o2 + j * 8 + 3, none⟩ = some (.slice mo2 n1 mc2) ∧ u.cell? ⟨b2, o2 + j * 8 + 4, none⟩ = some (.int .u64 y.bits) ∧ u.cell? ⟨b2, o2 + j * 8 + 5, none⟩ = some (.int .i8 y.ext) ∧ u.cell? ⟨b2, o2 + j * 8 + 6, none⟩ = some (.string ty) ∧ u.cell? ⟨b2, o2 + j * 8 + 7, none⟩ = some (.slice ko2 l1 kc2) := fun u hu => TC2.out u hu
      have K : Below wr.heap.size wr wr.drew := (Below.refl _ _).drew
      have HC0 := CC _ K
      refine wpHl.region0 (C := fun u => u.cell? ⟨b1, o1 + j * 8, none⟩ = some (.int .i8 y.kind) ∧ u.cell? ⟨b1, o1 + j * 8 + 1, none⟩ = some (.int .u64 y.n) ∧ u.cell? ⟨b1, o1 + j * 8 + 2, none⟩ = some (.bool y.neg) ∧ u.cell? ⟨b1, o1 + j * 8 + 3, none⟩ = some (.slice mo1 n1 mc1) ∧ u.cell? ⟨b1, o1 + j * 8 + 4, none⟩ = some (.int .u64 y.bits) ∧ u.cell? ⟨b1, o1 + j * 8 + 5, none⟩ = some (.int .i8 y.ext) ∧ u.cell? ⟨b1, o1 + j * 8 + 6, none⟩ = some (.string ty) ∧ u.cell? ⟨b1, o1 + j * 8 + 7, none⟩ = some (.slice ko1 l1 kc1) ∧ u.cell? ⟨b2, o2 + j * 8, none⟩ = some (.int .i8 y.kind) ∧ u.cell? ⟨b2, o2 + j * 8 + 1, none⟩ = some (.int .u64 y.n) ∧ u.cell? ⟨b2, o2 + j * 8 + 2, none⟩ = some (.bool y.neg) ∧ u.cell? ⟨b2, o2 + j * 8 + 3, none⟩ = some (.slice mo2 n1 mc2) ∧ u.cell? ⟨b2, o2 + j * 8 + 4, none⟩ = some (.int .u64 y.bits) ∧ u.cell? ⟨b2, o2 + j * 8 + 5, none⟩ = some (.int .i8 y.ext) ∧ u.cell? ⟨b2, o2 + j * 8 + 6, none⟩ = some (.string ty) ∧ u.cell? ⟨b2, o2 + j * 8 + 7, none⟩ = some (.slice ko2 l1 kc2)) (by kernel_rfl) (by kernel_rfl) (fun HS => ?_)
      refine wpHl.tk0 (i := 0) (d := some 17) (v := .slice (some ⟨b1, o1, none⟩) n cap1) rfl HS (by as_aux_lemma => kernel_rfl) rfl (fun _ _ _ h => h) (Or.inl ⟨by rfl, ?_⟩) HC0 ?_
      · intro u hC
        go_simp
      simp only [Act.put, List.setIfInBounds_toArray, List.set_cons_zero, List.set_cons_succ]
      refine wpHl.tk0 (i := 1) (d := some 18) (v := .int .i64 j) rfl HS (by as_aux_lemma => kernel_rfl) rfl (fun _ _ _ h => h) (Or.inl ⟨by rfl, ?_⟩) HC0 ?_
      · intro u hC
        go_simp
      simp only [Act.put, List.setIfInBounds_toArray, List.set_cons_zero, List.set_cons_succ]
      refine wpHl.tk0 (i := 2) (d := some 19) (v := .pointer (some ⟨b1, o1 + j * 8, none⟩)) rfl HS (by as_aux_lemma => kernel_rfl) rfl (fun _ _ _ h => h) (Or.inl ⟨by rfl, ?_⟩) HC0 ?_
      · intro u hC
        go_simp
      simp only [Act.put, List.setIfInBounds_toArray, List.set_cons_zero, List.set_cons_succ]
      refine wpHl.tk0 (i := 3) (d := some 20) (v := .agg #[.int .i8 y.kind, .int .u64 y.n, .bool y.neg, .slice mo1 n1 mc1, .int .u64 y.bits, .int .i8 y.ext, .string ty, .slice ko1 l1 kc1]) rfl HS (by as_aux_lemma => kernel_rfl) rfl (fun _ _ _ h => h) (Or.inl ⟨by rfl, ?_⟩) HC0 ?_
      · intro u hC
        obtain ⟨z0, z1, z2, z3, z4, z5, z6, z7, z8, z9, z10, z11, z12, z13, z14, z15⟩ := hC
        go_simp
      simp only [Act.put, List.setIfInBounds_toArray, List.set_cons_zero, List.set_cons_succ]
      refine wpHl.tk0 (i := 4) (d := some 21) (v := .slice (some ⟨b2, o2, none⟩) n cap2) rfl HS (by as_aux_lemma => kernel_rfl) rfl (fun _ _ _ h => h) (Or.inl ⟨by rfl, ?_⟩) HC0 ?_
      · intro u hC
        go_simp
      simp only [Act.put, List.setIfInBounds_toArray, List.set_cons_zero, List.set_cons_succ]
      refine wpHl.tk0 (i := 5) (d := some 22) (v := .int .i64 j) rfl HS (by as_aux_lemma => kernel_rfl) rfl (fun _ _ _ h => h) (Or.inl ⟨by rfl, ?_⟩) HC0 ?_
      · intro u hC
        go_simp
      simp only [Act.put, List.setIfInBounds_toArray, List.set_cons_zero, List.set_cons_succ]
      refine wpHl.tk0 (i := 6) (d := some 23) (v := .pointer (some ⟨b2, o2 + j * 8, none⟩)) rfl HS (by as_aux_lemma => kernel_rfl) rfl (fun _ _ _ h => h) (Or.inl ⟨by rfl, ?_⟩) HC0 ?_
      · intro u hC
        go_simp
      simp only [Act.put, List.setIfInBounds_toArray, List.set_cons_zero, List.set_cons_succ]
      refine wpHl.tk0 (i := 7) (d := some 24) (v := .agg #[.int .i8 y.kind, .int .u64 y.n, .bool y.neg, .slice mo2 n1 mc2, .int .u64 y.bits, .int .i8 y.ext, .string ty, .slice ko2 l1 kc2]) rfl HS (by as_aux_lemma => kernel_rfl) rfl (fun _ _ _ h => h) (Or.inl ⟨by rfl, ?_⟩) HC0 ?_
      · intro u hC
        obtain ⟨z0, z1, z2, z3, z4, z5, z6, z7, z8, z9, z10, z11, z12, z13, z14, z15⟩ := hC
        go_simp
      simp only [Act.put, List.setIfInBounds_toArray, List.set_cons_zero, List.set_cons_succ]
      refine wpHl.one (i := 8) (by as_aux_lemma => kernel_rfl) rfl (fun K1 hK1 => ?_)
      rw [if_pos (by rfl)]
      refine wp_call_of (f := 23) (args := #[.agg #[.int .i8 y.kind, .int .u64 y.n, .bool y.neg, .slice mo1 n1 mc1, .int .u64 y.bits, .int .i8 y.ext, .string ty, .slice ko1 l1 kc1], .agg #[.int .i8 y.kind, .int .u64 y.n, .bool y.neg, .slice mo2 n1 mc2, .int .u64 y.bits, .int .i8 y.ext, .string ty, .slice ko2 l1 kc2]]) (by kernel_rfl) ?_
      with_reducible refine (CALL.out _ K).mono ?_
      rintro e wn ⟨rfl, hb⟩
      replace K := below_trans K hb
      clear HC0
      have HC0 := CC _ K
      refine hK1 (Act.put _ (some 25) _) _ ⟨fun _ => HC0, ?_⟩
      clear hK1 K1 hb
      try simp only [Act.put, List.setIfInBounds_toArray, List.set_cons_zero, List.set_cons_succ]
      refine wpHl.tk0 (i := 9) (d := some 26) (v := .bool false) rfl HS (by as_aux_lemma => kernel_rfl) rfl (fun _ _ _ h => h) (Or.inl ⟨by rfl, ?_⟩) HC0 ?_
      · intro u hC
        go_simp
      simp only [Act.put, List.setIfInBounds_toArray, List.set_cons_zero, List.set_cons_succ]
      refine wpHl.done (by as_aux_lemma => kernel_rfl) ?_ _
      clear CC HC0 HS
      replace HB := hide (below_trans HB.out K)
      clear K CALL TC2
      go_wp2
      go_roundw
      case rel => exact ⟨j + 1, by omega, by go_num, HB⟩
      case measure => simp [intOf]; omega
    · have q0 : ¬ (j : Int) < (n : Int) := by omega
      go_wp2
      go_ret
      exact ⟨rfl, HB.out⟩
theorem smv_size : ∀ (N : Nat) (x : Va), SizeOf.sizeOf x ≤ N → SmOf x
  | 0, x, h => by cases x; simp at h
  | N + 1, x, h => smv_step (sms_step fun y hy => smv_size N y (by
      have h3 := List.sizeOf_lt_of_mem hy
      have h4 : SizeOf.sizeOf x.kids < SizeOf.sizeOf x := by
        cases x
        simp only [Va.kids, Va.mk.sizeOf_spec]
        omega
      omega))
theorem smv_any {x : Va} : SmOf x := smv_size _ x (Nat.le_refl _)
end Go.Proofs.YticmlelalbaalaaGreatDoor
