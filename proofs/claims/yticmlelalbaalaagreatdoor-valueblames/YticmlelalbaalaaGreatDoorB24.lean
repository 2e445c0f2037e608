import Derived.Test.YticmlelalbaalaaGreatDoorB16
import Derived.Laws.OwnMore
import Derived.Laws.AppendOwnNone
import Derived.OwnWalk
import Derived.Test.YticmlelalbaalaaGreatDoorB02
namespace Go.Proofs.YticmlelalbaalaaGreatDoor
open Go.RowKit
set_option linter.unusedVariables false
def flatV (zs : List (Va × Value × Value)) : List Value := zs.flatMap fun q => vaL q.1 q.2.1 q.2.2
theorem flatV_cons (q : Va × Value × Value) (zs : List (Va × Value × Value)) : flatV (q :: zs) = vaL q.1 q.2.1 q.2.2 ++ flatV zs := rfl
theorem flatV_app (a b : List (Va × Value × Value)) : flatV (a ++ b) = flatV a ++ flatV b := by simp [flatV]
theorem flatV_len (zs : List (Va × Value × Value)) : (flatV zs).length = zs.length * 8 := by
  induction zs with
  | nil => rfl
  | cons q zs ih => rw [flatV_cons, List.length_append, ih]; simp only [vaL, List.length_cons, List.length_nil]; omega
theorem flatV_at (zs : List (Va × Value × Value)) (i : Nat) (h : i < zs.length) (j : Nat) (hj : j < 8) : (flatV zs)[i * 8 + j]? = (vaL zs[i].1 zs[i].2.1 zs[i].2.2)[j]? := by
  induction zs generalizing i with
  | nil => simp at h
  | cons q zs ih =>
    have hl : (vaL q.1 q.2.1 q.2.2).length = 8 := rfl
    cases i with
    | zero =>
      rw [flatV_cons, List.getElem?_append_left (by rw [hl]; omega)]
      simp
    | succ i =>
      have := ih i (by simpa using h)
      rw [flatV_cons, List.getElem?_append_right (by rw [hl]; omega), hl, show (i + 1) * 8 + j - 8 = i * 8 + j by omega, this]
      simp
def GoodV (w : World) (q : Va × Value × Value) : Prop := Reads .u32 w q.2.1 q.1.mag ∧ VaW q.1 ∧ VaSl w q.2.2 q.1.kids
theorem GoodV.far {w w' : World} {q : Va × Value × Value} (h : GoodV w q) (hb : Below w.heap.size w w') : GoodV w' q := ⟨h.1.below hb, h.2.1, h.2.2.far hb⟩
theorem vaInfo : (Tryz.prog.info? 31).map (fun i => (i.zero, i.size, i.bytes)) = some (some (.agg #[.int .i8 0, .int .u64 0, .bool false, .slice none 0 0, .int .u64 0, .int .i8 0, .string ⟨#[]⟩, .slice none 0 0]), 8, 104) := by kernel_rfl
theorem info_va : ∃ i, Tryz.prog.info? 31 = some i ∧ i.zero = some (.agg #[.int .i8 0, .int .u64 0, .bool false, .slice none 0 0, .int .u64 0, .int .i8 0, .string ⟨#[]⟩, .slice none 0 0]) ∧ i.size = 8 ∧ i.bytes = 104 := by
  obtain ⟨i, hi, h⟩ := Option.map_eq_some_iff.1 vaInfo
  simp only [Prod.mk.injEq] at h
  exact ⟨i, hi, h.1, h.2.1, h.2.2⟩
theorem vaL_one {w : World} {q : Va × Value × Value} (h : GoodV w q) : ∀ u ∈ vaL q.1 q.2.1 q.2.2, u.oneCell' = true := by
  intro u hu
  obtain ⟨⟨ao, cap, hv, _⟩, _, h3⟩ := h
  obtain ⟨ko, kc, hk, _⟩ := h3.len
  rw [hv, hk] at hu
  simp only [vaL, List.mem_cons, List.not_mem_nil, or_false] at hu
  rcases hu with rfl | rfl | rfl | rfl | rfl | rfl | rfl | rfl <;> rfl
theorem wpList_append_va {w : World} {ops : Array Oper} {rest : List Oper} {o : Oper} {a : Act} {Q : Exit → Act → World → Prop} (hgd : o.guard = none) (s x : Operand)
    (ho : o.op = .call { callee := .builtin .append, args := #[s, x], argTypes := #[29, 29] })
    (base : Nat) (v : Value) (n : Nat) (xs : List Value) (hs : a.eval s = v) (hown : w.ownsRow base 31 8 v n xs)
    (b : Nat) (q : Va × Value × Value) (hx : a.eval x = .slice (some ⟨b, 0, none⟩) 1 1) (hc : ∀ j u, (vaL q.1 q.2.1 q.2.2)[j]? = some u → w.cell? ⟨b, j, none⟩ = some u) (hq : ∀ u ∈ vaL q.1 q.2.1 q.2.2, u.oneCell' = true)
    (h63 : n ≤ 1048576) (hbase : base ≤ w.heap.size)
    (h : ∀ v' w', w'.ownsRow base 31 8 v' (n + 1) (xs ++ vaL q.1 q.2.1 q.2.2) → Below base w w' → wpList Tryz.prog ops Q rest (a.put o.dst v') w') : wpList Tryz.prog ops Q (o :: rest) a w := by
  obtain ⟨i0, hi0, hz0, hz1, hz2⟩ := info_va
  have hr : ∀ k, v.ownBlock = some k → base ≤ k := by
    intro k hk
    rcases hown.2 with ⟨rfl, _⟩ | ⟨g, cap, cur, rfl, hg, _⟩
    · cases hk
    · cases hk; exact hg
  refine wpList_append_own w hgd s x _ ho base 31 i0 _ 8 104 Tryz.underlying29 hi0 hz0 hz1 hz2 rfl (by decide) v n xs hs hown ⟨b, 0, none⟩ 1 1 (vaL q.1 q.2.1 q.2.2) hx rfl ?_ hq (by unfold maxLen; omega) (by omega) hbase fun v' w' h2 h3 _ => h v' w' h2 ((Below.refl _ w).grown h3 hbase hr)
  intro j u hu
  rw [Addr.add_lit, Nat.zero_add]
  exact hc j u hu
theorem own_vasl {w : World} {B : Nat} {v : Value} {zs : List (Va × Value × Value)} (hsm : zs.length ≤ 1048577) (h : w.ownsRow B 31 8 v zs.length (flatV zs)) (hk : ∀ q ∈ zs, GoodV w q) : VaSl w v (zs.map Prod.fst) := by
  have hlen : (zs.map Prod.fst).length = zs.length := by simp
  rcases h.2 with ⟨rfl, h0⟩ | ⟨g, cap, cur, rfl, h1, h2, h3, h4, h5, h6⟩
  · have e4 : zs = [] := List.eq_nil_of_length_eq_zero h0
    subst e4
    exact VaSl.nil w
  · have key := VaSl.mk (w := w) (some ⟨g, 0, none⟩) cap (zs.map Prod.fst) (fun i => (zs.getD i (default, .nilIface, .nilIface)).2.1) (fun i => (zs.getD i (default, .nilIface, .nilIface)).2.2) (by rw [hlen]; exact h3) h4 (by rw [hlen]; omega) (fun h => by cases h) (fun hp => ⟨g, 0, rfl, (Array.getElem?_eq_some_iff.1 h2).1, fun i hi => by
      rw [hlen] at hi
      have gd : zs.getD i (default, .nilIface, .nilIface) = zs[i] := by simp [List.getD, hi]
      have hc := fun j (hj : j < 8) => (h.cellAt (g := g) (cap := cap) (i * 8 + j) (by omega)).trans (flatV_at zs i hi j hj)
      simp only [List.getElem_map, gd, Nat.zero_add]
      exact ⟨(hc 0 (by omega)).trans rfl, (hc 1 (by omega)).trans rfl, (hc 2 (by omega)).trans rfl, (hc 3 (by omega)).trans rfl, (hc 4 (by omega)).trans rfl, (hc 5 (by omega)).trans rfl, (hc 6 (by omega)).trans rfl, (hc 7 (by omega)).trans rfl⟩⟩) (fun i hi => by
      rw [hlen] at hi
      have gd : zs.getD i (default, .nilIface, .nilIface) = zs[i] := by simp [List.getD, hi]
      simp only [List.getElem_map, gd]
      exact ⟨(hk _ (List.getElem_mem hi)).1, (hk _ (List.getElem_mem hi)).2.1⟩) (fun i hi => by
      rw [hlen] at hi
      have gd : zs.getD i (default, .nilIface, .nilIface) = zs[i] := by simp [List.getD, hi]
      simp only [List.getElem_map, gd]
      exact (hk _ (List.getElem_mem hi)).2.2)
    rw [hlen] at key
    exact key
def mkVa : Va := .mk 99 777777 false [] 0 0 [] []
def mkQ : Va × Value × Value := (mkVa, .slice none 0 0, .slice none 0 0)
inductive VaTl (B : Nat) (w : World) : Value → List Va → Prop
  | mk (g : Nat) (zs : List (Va × Value × Value)) (hB : B ≤ g) (hl : zs.length ≤ 1048576)
      (ho : w.ownsRow B 31 8 (.slice (some ⟨g, 0, none⟩) (zs.length + 1) (zs.length + 1)) (zs.length + 1) (flatV (zs ++ [mkQ])))
      (hm : ∀ q, q ∈ zs → Twin B w q.2.1 q.1.mag ∧ VaW q.1)
      (hk : ∀ q, q ∈ zs → VaTl B w q.2.2 q.1.kids) : VaTl B w (.slice (some ⟨g, 0, none⟩) zs.length (zs.length + 1)) (zs.map Prod.fst)
structure TwV (B : Nat) (w : World) (v : Value) (x : Va) : Prop where
  ex : ∃ vm vk, v = vaV x vm vk ∧ Twin B w vm x.mag ∧ VaTl B w vk x.kids
  wf : VaW x
theorem own_far {w w' : World} {B : Nat} {e : TypeId} {s n : Nat} {v : Value} {xs : List Value} (h : w.ownsRow B e s v n xs) (hb : Below w.heap.size w w') : w'.ownsRow B e s v n xs := by
  obtain ⟨h0, h1 | ⟨g, cap, cur, rfl, h2, h3, h4⟩⟩ := h
  · exact ⟨h0, .inl h1⟩
  · have hg : g < w.heap.size := by
      rcases Nat.lt_or_ge g w.heap.size with k | k
      · exact k
      · rw [Array.getElem?_eq_none k] at h3; cases h3
    exact ⟨h0, .inr ⟨g, cap, cur, rfl, h2, (hb.block g hg).trans h3, h4⟩⟩
theorem own_low {w : World} {B B' : Nat} {e : TypeId} {s n : Nat} {v : Value} {xs : List Value} (h : w.ownsRow B e s v n xs) (hb : B' ≤ B) : w.ownsRow B' e s v n xs := by
  obtain ⟨h0, h1 | ⟨g, cap, cur, rfl, h2, h3⟩⟩ := h
  · exact ⟨h0, .inl h1⟩
  · exact ⟨h0, .inr ⟨g, cap, cur, rfl, by omega, h3⟩⟩
theorem kpts_flat {xs : List Va} {i : Nat} (h : i < xs.length) : (xs.take (i + 1)).flatMap Va.kids = (xs.take i).flatMap Va.kids ++ xs[i].kids := by
  rw [List.take_succ_eq_append_getElem h, List.flatMap_append]; simp
theorem mags_take {xs : List Va} {i : Nat} (h : i < xs.length) : ((xs.take (i + 1)).map fun a => a.mag.length).sum = ((xs.take i).map fun a => a.mag.length).sum + xs[i].mag.length := by
  rw [List.take_succ_eq_append_getElem h, List.map_append, List.sum_append]; simp
theorem own_shape {w : World} {B : Nat} {e : TypeId} {s n : Nat} {v : Value} {xs : List Value} (h : w.ownsRow B e s v n xs) : ∃ no nc, v = .slice no n nc ∧ n ≤ nc ∧ nc ≤ 9223372036854775807 := by
  rcases h.2 with ⟨rfl, rfl⟩ | ⟨g, cap, cur, rfl, h1, h2, h3, h4, _⟩
  · exact ⟨none, 0, rfl, Nat.le_refl _, by omega⟩
  · exact ⟨_, cap, rfl, h3, h4⟩
theorem hal_new (w : World) (o : Obj) : (w.alloc o).heap[w.heap.size]? = some o := by
  show (w.heap.push o)[w.heap.size]? = some o
  simp
theorem bel_al (w : World) (o : Obj) : Below w.heap.size w (w.alloc o) := (Below.refl _ _).alloc (Nat.le_refl _) _
def PtsIs (e : Ending) (z : Nat) : Prop := ∃ r : Int, e = .returned (.int .i64 r) ∧ (r = 1048577 ∨ (r = (z : Int) ∧ z ≤ 1048576))
set_option maxHeartbeats 16000000 in
set_option maxRecDepth 100000 in
theorem vparts_any {w : World} {v : Value} {xs : List Va} (h : VaSl w v xs) :
    Calls Tryz.prog 29 #[v, .int .i64 1048576] w fun e w' => PtsIs e (kpts xs) ∧ Below w.heap.size w w' := by
  have HV := hide h
  obtain ⟨ao, cap, rfl, hcap, hmax⟩ := h.len
  clear h
  go_enter Tryz.func29, Tryz.ntmps29
  go_wp2
  go_loopw [5, 6, 7, 8] (fun n s lv d wr => ∃ (N S D : Nat) (ls : List Va), n = .int .i64 N ∧ s = .int .i64 S ∧ d = .int .i64 D ∧ Hid (VaSl wr lv ls) ∧ Hid (N + kpts ls = kpts xs) ∧ N ≤ 1048576 ∧ S ≤ 2147483648 ∧ D ≤ 65537 ∧ Hid (Below w.heap.size w wr)) (fun _ _ _ d _ => 65538 - (intOf d).toNat)
  case atStart => exact ⟨0, 0, 0, xs, rfl, rfl, rfl, HV, hide (by omega), by omega, by omega, by omega, hide (Below.refl _ _)⟩
  case round =>
    obtain ⟨N, S, D, ls, rfl, rfl, rfl, HLV, HNK, hN, hS, hD, HB⟩ := hrel
    obtain ⟨lo, lc, rfl, hlc, hlm⟩ := HLV.out.len
    have hsm := HLV.out.small
    by_cases h0 : ls.length = 0
    · have q0 : ¬ (0 : Int) < (ls.length : Int) := by omega
      have e0 : ls = [] := List.eq_nil_of_length_eq_zero h0
      have HE := hide (show N = kpts xs by have := HNK.out; rw [e0] at this; simpa [kpts] using this)
      generalize ls.length = ll at *
      clear h0 e0
      go_wp2
      go_ret
      exact ⟨⟨N, rfl, .inr ⟨by rw [HE.out], by have := HE.out; omega⟩⟩, HB.out⟩
    · have q0 : (0 : Int) < (ls.length : Int) := by omega
      obtain ⟨ll, hll⟩ : ∃ ll, ls.length = ll := ⟨_, rfl⟩
      have HLL := hide hll
      rw [hll] at h0 q0 hlc hsm ⊢
      clear hll
      have w1 : IntKind.i64.wrap ((N : Int) + ll) = (N : Int) + ll := by rw [IntKind.wrap_i64]; omega
      by_cases h1 : 1048576 < N + ll
      · have q1 : (1048576 : Int) < (N : Int) + ll := by omega
        go_wp2
        go_ret
        exact ⟨⟨1048577, rfl, .inl rfl⟩, HB.out⟩
      · have q1 : decide ((1048576 : Int) < (N : Int) + ll) = false := decide_eq_false (by omega)
        by_cases h2 : 65536 < D
        · have q2 : (65536 : Int) < (D : Int) := by omega
          go_wp2
          go_ret
          exact ⟨⟨1048577, rfl, .inl rfl⟩, HB.out⟩
        · have q2 : ¬ (65536 : Int) < (D : Int) := by omega
          go_wp2
          obtain ⟨M, hM⟩ : ∃ M : Nat, N + ll = M := ⟨_, rfl⟩
          have hMi : (N : Int) + ll = (M : Int) := by omega
          have HM := hide hM
          rw [hMi]
          have hM1 : M ≤ 1048576 := by omega
          clear hM hMi w1 q1 h1 q0
          obtain ⟨wL, hwL⟩ : ∃ wL, wr = wL := ⟨_, rfl⟩
          rw [hwL] at HLV HB ⊢
          clear hwL
          go_loopw [5, 6, 9, 10] (fun n s nx q ws => ∃ (P S2 i : Nat) (zs : List (Va × Value × Value)), n = .int .i64 P ∧ s = .int .i64 S2 ∧ q = .int .i64 i ∧ i ≤ ll ∧ Hid (P = M + ((ls.take i).map fun a => a.mag.length).sum) ∧ P + zs.length ≤ 1048576 ∧ S2 ≤ 2147483648 ∧ Hid (zs.map Prod.fst = (ls.take i).flatMap Va.kids) ∧ Hid (∀ z ∈ zs, GoodV wL z) ∧ Hid (ws.ownsRow wL.heap.size 31 8 nx zs.length (flatV zs)) ∧ Hid (Below wL.heap.size wL ws)) (fun _ _ _ q _ => ll - (intOf q).toNat)
          case atStart => exact ⟨M, S, 0, [], rfl, rfl, rfl, by omega, hide (by simp), by simpa using hM1, by omega, hide (by simp), hide (by simp), hide (World.ownsRow_nil _ _ _ _), hide (Below.refl _ _)⟩
          case round =>
            obtain ⟨P, S2, i, zs, rfl, rfl, rfl, hi, HP, hP, hS2, HZ, HG, HO, HBL⟩ := hrel
            obtain ⟨no, nc, rfl, hnc, hncm⟩ := own_shape HO.out
            by_cases hil : i < ll
            · have q1 : (i : Int) < (ll : Int) := by omega
              have hil2 : i < ls.length := by rw [HLL.out]; exact hil
              obtain ⟨b, off, vm, vk, e1, hbl, hcc, hmr, hks, hvw⟩ := HLV.out.at rfl hil2
              obtain ⟨ml, hml⟩ : ∃ ml, (ls[i]).mag.length = ml := ⟨_, rfl⟩
              obtain ⟨mo, mc, rfl, hmc, hmm, -⟩ := hmr
              obtain ⟨ko, kc, rfl, hkc, hkm⟩ := hks.len
              have hk41 := hks.small
              obtain ⟨kl, hkl⟩ : ∃ kl, (ls[i]).kids.length = kl := ⟨_, rfl⟩
              obtain ⟨tl, htl⟩ : ∃ tl, (strOfNums (ls[i]).text).size = tl := ⟨_, rfl⟩
              have hml45 := hvw.ml
              have htl47 : tl ≤ 140737488355328 := by rw [← htl, strOfNums_size]; exact hvw.tl
              subst e1
              have hcc7 : Hid (∀ u : World, Below wL.heap.size wL u → u.cell? ⟨b, off + i * 8 + 7, none⟩ = some (.slice ko (ls[i]).kids.length kc)) := hide fun u hu => (hcc.below hu hbl).c7
              obtain ⟨c0, c1, c2, c3, c4, c5, c6, c7⟩ := hcc.below HBL.out hbl
              have HMG := hide (mags_take hil2)
              have HKF := hide (kpts_flat hil2)
              have HKS := hide hks
              rw [hml] at c3 hml45 HMG
              rw [hkl] at c7 hk41 HKS hcc7
              have HKL := hide hkl
              have HTL := hide htl
              generalize strOfNums (ls[i]).text = tx at *
              generalize (ls[i]).kind = fk at *
              generalize (ls[i]).n = fn at *
              generalize (ls[i]).neg = fg at *
              generalize (ls[i]).bits = fb at *
              generalize (ls[i]).ext = fe at *
              clear hks hvw hml hkl hmc hmm hkc hkm
              have w1 : IntKind.i64.wrap ((P : Int) + ml) = (P : Int) + ml := by rw [IntKind.wrap_i64]; omega
              have w2 : IntKind.i64.wrap ((S2 : Int) + tl) = (S2 : Int) + tl := by rw [IntKind.wrap_i64]; omega
              have w3 : IntKind.i64.wrap ((P : Int) + ml + zs.length) = (P : Int) + ml + zs.length := by rw [IntKind.wrap_i64]; omega
              have w4 : IntKind.i64.wrap ((P : Int) + ml + zs.length + kl) = (P : Int) + ml + zs.length + kl := by rw [IntKind.wrap_i64]; omega
              have htl' : tx.size = tl := HTL.out
              by_cases h5 : 1048576 < (P : Int) + ml + zs.length + kl
              · go_wp2
                go_ret
                exact ⟨⟨1048577, rfl, .inl rfl⟩, HB.out.trans (HBL.out.mono HB.out.size)⟩
              · have q5 : decide (1048576 < (P : Int) + ml + zs.length + kl) = false := decide_eq_false h5
                by_cases h6 : 2147483648 < (S2 : Int) + tl
                · go_wp2
                  go_ret
                  exact ⟨⟨1048577, rfl, .inl rfl⟩, HB.out.trans (HBL.out.mono HB.out.size)⟩
                · have q6 : decide (2147483648 < (S2 : Int) + tl) = false := decide_eq_false h6
                  go_wp2
                  obtain ⟨Ks, hKs⟩ : ∃ Ks, (ls[i]).kids = Ks := ⟨_, rfl⟩
                  rw [hKs] at HKS HKF HKL
                  clear hKs c0 c1 c2 c3 c4 c5 c6 c7
                  go_loopw [9, 11] (fun nx k wt => ∃ (j : Nat) (ys : List (Va × Value × Value)), k = .int .i64 j ∧ j ≤ kl ∧ Hid (ys.map Prod.fst = Ks.take j) ∧ Hid (∀ z ∈ ys, GoodV wL z) ∧ Hid (ys.length = j) ∧ Hid (wt.ownsRow wL.heap.size 31 8 nx (zs.length + j) (flatV (zs ++ ys))) ∧ Hid (Below wL.heap.size wL wt)) (fun _ k _ => kl - (intOf k).toNat)
                  case atStart => exact ⟨0, [], rfl, by omega, hide (by simp), hide (by simp), hide rfl, hide (by simpa using HO.out), HBL⟩
                  case round =>
                    obtain ⟨j, ys, rfl, hj, HYK, HYG, HYL, HYO, HBT⟩ := hrel
                    obtain ⟨yo, yc, rfl, hyc, hycm⟩ := own_shape HYO.out
                    have c7 := hcc7.out _ HBT.out
                    by_cases hjl : j < kl
                    · have q7 : (j : Int) < (kl : Int) := by omega
                      have hjl2 : j < Ks.length := by rw [HKL.out]; exact hjl
                      obtain ⟨kb, kof, km, kk, e2, hkbl, hkc, hkmr, hkks, hkvw⟩ := HKS.out.at (by rw [HKL.out]) hjl2
                      have HGQ := hide (show GoodV wL (Ks[j], km, kk) from ⟨hkmr, hkvw, hkks⟩)
                      have HTK := hide (show Ks.take (j + 1) = Ks.take j ++ [Ks[j]] from List.take_succ_eq_append_getElem hjl2)
                      obtain ⟨mo2, mc2, rfl, -⟩ := hkmr
                      obtain ⟨ko2, kc2, rfl, -⟩ := hkks.len
                      subst e2
                      obtain ⟨d0, d1, d2, d3, d4, d5, d6, d7⟩ := hkc.below HBT.out hkbl
                      clear hkc hkvw hkks hkbl
                      generalize Ks[j] = kv at *
                      have HON := hide (HYO.out.alloc (.cells #[.int .i8 kv.kind, .int .u64 kv.n, .bool kv.neg, .slice mo2 kv.mag.length mc2, .int .u64 kv.bits, .int .i8 kv.ext, .string (strOfNums kv.text), .slice ko2 kv.kids.length kc2] 31))
                      have HCL : Hid (∀ r u, (vaL kv (.slice mo2 kv.mag.length mc2) (.slice ko2 kv.kids.length kc2))[r]? = some u → (wr.alloc (.cells #[.int .i8 kv.kind, .int .u64 kv.n, .bool kv.neg, .slice mo2 kv.mag.length mc2, .int .u64 kv.bits, .int .i8 kv.ext, .string (strOfNums kv.text), .slice ko2 kv.kids.length kc2] 31)).cell? ⟨wr.heap.size, r, none⟩ = some u) := hide fun r u hu => (cell_of_row _ _ r _ _ _ (hal_new wr _)).trans (by simpa [vaL] using hu)
                      have HOC := hide (vaL_one HGQ.out)
                      have HBA := hide (below_trans HBT.out (bel_al wr (.cells #[.int .i8 kv.kind, .int .u64 kv.n, .bool kv.neg, .slice mo2 kv.mag.length mc2, .int .u64 kv.bits, .int .i8 kv.ext, .string (strOfNums kv.text), .slice ko2 kv.kids.length kc2] 31)))
                      generalize kv.kind = fk2 at *
                      generalize kv.n = fn2 at *
                      generalize kv.neg = fg2 at *
                      generalize kv.mag.length = fm2 at *
                      generalize kv.bits = fb2 at *
                      generalize kv.ext = fe2 at *
                      generalize strOfNums kv.text = ft2 at *
                      generalize kv.kids.length = fl2 at *
                      have hcnt : zs.length + j ≤ 1048576 := by omega
                      go_wp2_with (refine wpList_append_va rfl _ _ rfl wL.heap.size _ (zs.length + j) (flatV (zs ++ ys)) rfl HON.out wr.heap.size (kv, .slice mo2 fm2 mc2, .slice ko2 fl2 kc2) rfl HCL.out HOC.out hcnt HBA.out.size ?_; intro v' w' hO' hB')
                      have HO2 := hide hO'
                      have HB2 := hide (HBA.out.trans hB')
                      clear hO' hB'
                      go_wp2
                      go_roundw
                      case rel =>
                        refine ⟨j + 1, ys ++ [(kv, .slice mo2 fm2 mc2, .slice ko2 fl2 kc2)], by simp, by omega, ?_, ?_, ?_, ?_, HB2⟩
                        · exact hide (by rw [List.map_append, HYK.out, HTK.out]; rfl)
                        · exact hide (fun z hz => by
                            rcases List.mem_append.1 hz with h | h
                            · exact HYG.out z h
                            · rw [List.mem_singleton.1 h]; exact HGQ.out)
                        · exact hide (by rw [List.length_append, HYL.out]; rfl)
                        · have := HO2.out
                          rw [show flatV (zs ++ ys) ++ vaL kv (.slice mo2 fm2 mc2) (.slice ko2 fl2 kc2) = flatV (zs ++ (ys ++ [(kv, .slice mo2 fm2 mc2, .slice ko2 fl2 kc2)])) by rw [← List.append_assoc, flatV_app (zs ++ ys)]; simp [flatV]] at this
                          exact hide this
                      case measure => simp [intOf]; omega
                    · have q7 : ¬ (j : Int) < (kl : Int) := by omega
                      have e3 : j = kl := by omega
                      subst e3
                      have HE := hide (show Ks.take j = Ks from List.take_of_length_le (by rw [HKL.out]; omega))
                      rw [HE.out] at HYK
                      go_wp2
                      go_roundw
                      case rel =>
                        refine ⟨P + ml, S2 + tl, i + 1, zs ++ ys, by simp, by simp, by simp, by omega, ?_, ?_, by omega, ?_, ?_, ?_, HBT⟩
                        · have h7 := HP.out
                          have h8 := HMG.out
                          exact hide (by omega)
                        · rw [List.length_append, HYL.out]; omega
                        · exact hide (by rw [List.map_append, HZ.out, HYK.out, HKF.out])
                        · exact hide (fun z hz => by
                            rcases List.mem_append.1 hz with h | h
                            · exact HG.out z h
                            · exact HYG.out z h)
                        · have := HYO.out
                          rw [List.length_append, HYL.out]
                          exact hide this
                      case measure => simp [intOf]; omega
            · have q1 : ¬ (i : Int) < (ll : Int) := by omega
              have e1 : i = ll := by omega
              subst e1
              have HE := hide (show ls.take i = ls from List.take_of_length_le (by rw [HLL.out]; omega))
              rw [HE.out] at HP HZ
              have HVN := hide (own_vasl (by omega) HO.out (fun z hz => (HG.out z hz).far HBL.out))
              go_wp2
              go_roundw
              case rel =>
                refine ⟨P, S2, D + 1, zs.map Prod.fst, rfl, rfl, by simp, ?_, ?_, by omega, hS2, by omega, hide (HB.out.trans (HBL.out.mono HB.out.size))⟩
                · have := HVN.out
                  exact hide this
                · have h7 := kpts_level ls
                  have h8 := HNK.out
                  have h9 := HP.out
                  have h10 := HM.out
                  have h11 := HLL.out
                  rw [HZ.out]
                  exact hide (by omega)
              case measure => simp [intOf]; omega
def BeyIs (e : Ending) (z : Nat) : Prop := ∃ b : Bool, e = .returned (.bool b) ∧ (b = true ∨ z ≤ 1048576)
set_option maxHeartbeats 4000000 in
theorem beyondval_any {w : World} {v : Value} {xs : List Va} (h : VaSl w v xs) :
    Calls Tryz.prog 9 #[v] w fun e w' => BeyIs e (kpts xs) ∧ Below w.heap.size w w' := by
  have HV := hide h
  obtain ⟨ao, cap, rfl, -, -⟩ := h.len
  generalize xs.length = l at *
  go_enter Tryz.func9, Tryz.ntmps9
  go_wp2_with fail
  with_reducible refine (vparts_any HV.out).mono ?_
  rintro e w1 ⟨⟨r, rfl, hr⟩, K1⟩
  have HK := hide K1
  have HR := hide (show decide (1048576 < r) = true ∨ kpts xs ≤ 1048576 from by
    rcases hr with rfl | ⟨-, h⟩
    · exact .inl (by decide)
    · exact .inr h)
  clear hr K1
  go_wp2
  go_ret
  exact ⟨⟨_, rfl, HR.out⟩, HK.out⟩
end Go.Proofs.YticmlelalbaalaaGreatDoor
