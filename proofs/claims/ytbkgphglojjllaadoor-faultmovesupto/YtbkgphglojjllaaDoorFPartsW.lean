/- ref13.Parts and law13.beyond: the walks -/
import Derived.Test.YtbkgphglojjllaaDoorFParts
namespace Go.Proofs.YtbkgphglojjllaaDoor
open Go.RowKit
set_option linter.unusedVariables false

theorem take_kids {xs : List Nd} {i : Nat} (h : i < xs.length) : (xs.take (i + 1)).flatMap Nd.kids = (xs.take i).flatMap Nd.kids ++ xs[i].kids := by
  rw [List.take_succ_eq_append_getElem h, List.flatMap_append]; simp
theorem one_node {w : World} {x : Nd} {v : Value} (h : NdSl w v x.kids) : NdSl (w.alloc (.cells #[.int .i64 x.kind, .int .i64 x.code, .int .i64 x.place, .string x.path, v] 24)) (.slice (some ⟨w.heap.size, 0, none⟩) 1 1) [x] := by
  have hb := bel_alloc13 w (.cells #[.int .i64 x.kind, .int .i64 x.code, .int .i64 x.place, .string x.path, v] 24)
  refine .mk (some ⟨w.heap.size, 0, none⟩) 1 [x] (fun _ => v) (by simp) (by unfold maxLen; omega) (by simp) (fun h => by cases h) (fun _ => ⟨w.heap.size, 0, rfl, by simp, fun i hi => ?_⟩) (fun i hi => ?_)
  · obtain rfl : i = 0 := by simpa using hi
    obtain ⟨e0, e1, e2, e3, e4⟩ := box_node (w := w) (k := x.kind) (c := x.code) (a := x.place) (p := x.path) (v := v) _ (Below.refl _ _)
    exact ⟨e0, e1, e2, e3, e4⟩
  · obtain rfl : i = 0 := by simpa using hi
    exact h.far hb
set_option maxHeartbeats 8000000 in
set_option maxRecDepth 100000 in
theorem parts_any {w : World} {x : Nd} {v : Value} (h : NdSl w v x.kids) :
    Calls Tryd.prog 30 #[ndV x v, .int .i64 10000] w fun e w' => (∃ r : Int, e = .returned (.int .i64 r) ∧ (r = 10001 ∨ (r = ndZ x ∧ ndZ x ≤ 10000))) ∧ Below w.heap.size w w' := by
  obtain ⟨zt, hzt⟩ : ∃ zt, ndZ x = zt := ⟨_, rfl⟩
  have hz1 : allZ [x] = zt := by rw [← hzt]; simp [allZ]
  rw [hzt]
  have K0 := hide ((Below.refl w.heap.size w).alloc (Nat.le_refl _) (.cells #[.int .i64 x.kind, .int .i64 x.code, .int .i64 x.place, .string x.path, v] 24))
  have K1 := hide (K0.out.alloc K0.out.size (.cells #[.int .i64 x.kind, .int .i64 x.code, .int .i64 x.place, .string x.path, v] 24))
  have H1 := hide (one_node (h.far K0.out))
  have hz0 : (w.alloc (.cells #[.int .i64 x.kind, .int .i64 x.code, .int .i64 x.place, .string x.path, v] 24)).heap.size = w.heap.size + 1 := by simp
  rw [hz0] at H1
  obtain ⟨ao, cap, rfl, hcap, hmax⟩ := h.len
  clear h hzt hz0 hcap hmax
  unfold ndV
  generalize x.kind = k at *
  generalize x.code = c at *
  generalize x.place = a at *
  generalize x.path = p at *
  generalize x.kids = ks at *
  go_enter Tryd.func30, Tryd.ntmps30
  go_wp2
  generalize (w.alloc (.cells #[.int .i64 k, .int .i64 c, .int .i64 a, .string p, .slice ao ks.length cap] 24)).alloc (.cells #[.int .i64 k, .int .i64 c, .int .i64 a, .string p, .slice ao ks.length cap] 24) = W at *
  clear K0
  go_loopg [5, 6, 7, 8] zt (fun m n lv nx ii wr => ∃ (n0 : Nat) (xs : List Nd), n = .int .i64 n0 ∧ m = allZ xs ∧ n0 + allZ xs = zt ∧ n0 ≤ 10000 ∧ xs.length ≤ 10000 ∧ Hid (NdSl wr lv xs) ∧ Hid (Below w.heap.size w wr))
  case atStart => exact ⟨0, [x], rfl, hz1.symm, by omega, by omega, by simp, H1, K1⟩
  case round =>
    obtain ⟨n0, xs, rfl, rfl, hsum, hn0, hxl, HL, HB⟩ := hrel
    obtain ⟨Wb, rfl⟩ : ∃ Wb, Wb = wr := ⟨_, rfl⟩
    obtain ⟨al, cl, rfl, hcl, hml⟩ := HL.out.len
    have hxz := allZ_len xs
    rcases Nat.eq_zero_or_pos xs.length with h0 | h0
    · have e0 := List.eq_nil_of_length_eq_zero h0
      have h0' : ¬ ((0 : Int) < (xs.length : Int)) := by omega
      have hs : n0 = zt := by rw [e0] at hsum; simpa [allZ] using hsum
      subst hs
      clear e0 h0 hxz hsum hz1
      go_wp2
      go_ret
      exact ⟨⟨(n0 : Int), rfl, by first | exact Or.inr ⟨rfl, hn0⟩ | exact Or.inr rfl⟩, HB.out⟩
    · have h0' : (0 : Int) < (xs.length : Int) := by omega
      by_cases hbig : 10000 < n0 + xs.length
      · have w1 : IntKind.i64.wrap ((n0 : Int) + (xs.length : Int)) = (n0 : Int) + (xs.length : Int) := by rw [IntKind.wrap_i64]; omega
        have b1 : (10000 : Int) < (n0 : Int) + (xs.length : Int) := by omega
        clear hxz hsum hz1 h0
        go_wp2
        go_ret
        exact ⟨⟨_, rfl, Or.inl (by decide)⟩, HB.out⟩
      · have w1 : IntKind.i64.wrap ((n0 : Int) + (xs.length : Int)) = (n0 : Int) + (xs.length : Int) := by rw [IntKind.wrap_i64]; omega
        have b1 : ¬ ((10000 : Int) < (n0 : Int) + (xs.length : Int)) := by omega
        clear hxz h0
        go_wp2
        go_loopw [7, 8] (fun nv q wi => ∃ (i : Nat) (zs : List (Nd × Value)) (nl : Option Addr) (nc : Nat), q = .int .i64 i ∧ nv = .slice nl zs.length nc ∧ i ≤ xs.length ∧ zs.map Prod.fst = (xs.take i).flatMap Nd.kids ∧ n0 + xs.length + zs.length ≤ 10000 ∧ Hid (∀ q ∈ zs, NdSl Wb q.2 q.1.kids) ∧ Hid (wi.ownsRow Wb.heap.size 24 5 nv zs.length (flatP zs)) ∧ Hid (Below Wb.heap.size Wb wi)) (fun _ q _ => xs.length - (intOf q).toNat)
        case atStart => exact ⟨0, [], none, 0, rfl, rfl, by omega, by simp, by simp; omega, hide (by intro q hq; cases hq), hide (World.ownsRow_nil _ _ _ _), hide (Below.refl _ _)⟩
        case round =>
          obtain ⟨i, zs, nl, nc, rfl, rfl, hi, hmap, hlen, HK, HO, HI⟩ := hrel
          by_cases hil : i < xs.length
          · have q1 : (i : Int) < (xs.length : Int) := by omega
            have q0 : (0 : Int) ≤ (i : Int) := by omega
            obtain ⟨b, off, vi, rfl, hbl, hcc, hks⟩ := NdSl.at (HL.out.far HI.out) rfl hil
            have hks0 := hks
            obtain ⟨b', off', vi', hao, hbl0, hcc0, hks1⟩ := NdSl.at HL.out rfl hil
            cases hao
            have hvv : vi' = vi := by
              have e1 := hcc.c4
              rw [HI.out.cell (p := ⟨b, _, none⟩) hbl0, hcc0.c4] at e1
              exact Option.some.inj e1
            subst hvv
            have z4 := hcc.c4
            have htk := take_kids hil
            obtain ⟨ak, ck, rfl, hck, hmk⟩ := hks.len
            have HKS := hide hks
            have HK1 := hide hks1
            have HT := hide htk
            have HS := hide (HB.out.size)
            generalize xs[i] = y at *
            have u1 : IntKind.i64.wrap ((n0 : Int) + (xs.length : Int) + (zs.length : Int)) = (n0 : Int) + (xs.length : Int) + (zs.length : Int) := by rw [IntKind.wrap_i64]; omega
            have w2' : IntKind.i64.wrap ((i : Int) + 1) = (i : Int) + 1 := by rw [IntKind.wrap_i64]; omega
            have hsm := hks.small
            clear hcc hcc0 hks hks0 hks1 htk
            by_cases hb2 : 10000 < n0 + xs.length + zs.length + y.kids.length
            · have u2 : IntKind.i64.wrap ((n0 : Int) + (xs.length : Int) + (zs.length : Int) + (y.kids.length : Int)) = (n0 : Int) + (xs.length : Int) + (zs.length : Int) + (y.kids.length : Int) := by rw [IntKind.wrap_i64]; omega
              have b2 : (10000 : Int) < (n0 : Int) + (xs.length : Int) + (zs.length : Int) + (y.kids.length : Int) := by omega
              have HBI := hide (HB.out.trans (HI.out.mono HB.out.size))
              go_wp2
              go_ret
              exact ⟨⟨_, rfl, Or.inl (by decide)⟩, HBI.out⟩
            · have u2 : IntKind.i64.wrap ((n0 : Int) + (xs.length : Int) + (zs.length : Int) + (y.kids.length : Int)) = (n0 : Int) + (xs.length : Int) + (zs.length : Int) + (y.kids.length : Int) := by rw [IntKind.wrap_i64]; omega
              have b2 : ¬ ((10000 : Int) < (n0 : Int) + (xs.length : Int) + (zs.length : Int) + (y.kids.length : Int)) := by omega
              have HSI := hide (HI.out.size)
              go_wp2_with (at_builtin; refine wpList_append_nodes rfl _ _ rfl Wb.heap.size _ zs.length _ rfl HO.out Wb HI.out _ y.kids rfl HK1.out (by omega) HSI.out ?_; intro v1 w1 zk hzk hkk ho1 hb1; have HO1 := hide ho1; have HK2 := hide hkk; have HZ := hide hzk; have HI1 := hide (HI.out.trans hb1); clear ho1 hb1 hkk hzk)
              all_goals
                have hkl : zk.length = y.kids.length := by rw [← HZ.out]; simp
                have HK3 := hide (fun q (hq : q ∈ zs ++ zk) => (show NdSl Wb q.2 q.1.kids from by
                  rcases List.mem_append.1 hq with h | h
                  · exact HK.out q h
                  · exact HK2.out q h))
                have HO2 := hide (show w1.ownsRow Wb.heap.size 24 5 v1 (zs ++ zk).length (flatP (zs ++ zk)) from by
                  rw [flatP_app, List.length_append, hkl]; exact HO1.out)
                obtain ⟨nl1, nc1, hnv⟩ : ∃ nl1 nc1, v1 = .slice nl1 (zs ++ zk).length nc1 := by
                  rcases HO2.out.2 with ⟨e, h0⟩ | ⟨g, cap, cur, e, _⟩
                  · exact ⟨none, 0, by rw [e, h0]⟩
                  · exact ⟨_, _, e⟩
                go_roundw
                case rel => exact ⟨i + 1, zs ++ zk, nl1, nc1, by simp, hnv, by omega, by rw [List.map_append, hmap, HZ.out, HT.out], by simp; omega, HK3, HO2, HI1⟩
                case measure => simp [intOf]; omega
          · have q1 : ¬ ((i : Int) < (xs.length : Int)) := by omega
            rw [List.take_of_length_le (by omega)] at hmap
            have HN := hide (own_ndsl (by omega) HO.out (fun q hq => (HK.out q hq).far HI.out))
            have hzz := allZ_kids xs
            rw [← hmap] at hzz
            have HBI := hide (HB.out.trans (HI.out.mono HB.out.size))
            have hzl : (zs.map Prod.fst).length = zs.length := by simp
            generalize zs.map Prod.fst = ys at *
            clear HO HK hmap
            go_wp2
            go_roundg (allZ ys)
            case measure => omega
            case rel => exact ⟨n0 + xs.length, ys, by simp, rfl, by omega, by omega, by omega, HN, HBI⟩

end Go.Proofs.YtbkgphglojjllaaDoor
