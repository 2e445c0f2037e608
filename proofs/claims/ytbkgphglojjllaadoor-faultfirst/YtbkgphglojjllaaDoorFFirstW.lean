/- FaultFirst's walk -/
import Derived.Test.YtbkgphglojjllaaDoorFFirst
import Derived.Test.YtbkgphglojjllaaDoorFTellsW
import Derived.Deep.RegionHeld3
namespace Go.Proofs.YtbkgphglojjllaaDoor
open Go.RowKit
set_option linter.unusedVariables false

theorem ndZ_of {ks : List Nd} (h : allZ ks ≤ 10000) {i : Nat} (hi : i < ks.length) : ndZ ks[i] ≤ 10000 := Nat.le_trans (allZ_mem (List.getElem_mem hi)) h
set_option maxHeartbeats 8000000 in
set_option maxRecDepth 100000 in
theorem firstLaw_walk {w : World} {a : Nat → Addr} {v : Value} {ks : List Nd} (hS : Snt w a) (hH : Hnd w) (h : NdSl w v ks) :
    Calls Tryd.prog 6 #[v] w fun e w' => e = .returned (.bool true) ∧ Below w.heap.size w w' := by
  have HB := hide (beyond_any h)
  have HV := hide h
  have HS := hide hS
  have HH := hide hH
  obtain ⟨ao, cap, rfl, hcap, hmax⟩ := h.len
  clear h hS hH hcap
  go_enter Tryd.func6, Tryd.ntmps6
  go_wp2_with fail
  refine HB.out.mono ?_
  rintro e W ⟨⟨bo, rfl, hbo⟩, hb3⟩
  have K3 := hide hb3
  clear hb3 HB
  cases bo with
  | true =>
    go_wp2
    go_ret
    exact ⟨rfl, K3.out⟩
  | false =>
    have hZ := hide (hbo.resolve_left (by decide))
    clear hbo
    have hkl : ks.length ≤ 10000 := Nat.le_trans (allZ_len ks) hZ.out
    have HVW := hide (HV.out.far K3.out)
    have HSW := hide (HS.out.below K3.out)
    have HHW := hide (HH.out.below K3.out)
    go_wp2
    go_loopw [3, 4] (fun cvv q wr => ∃ (i : Nat) (bs : List Value) (cl : Option Addr) (cc : Nat), q = .int .i64 i ∧ cvv = .slice cl i cc ∧ i ≤ ks.length ∧ Hid (LI W wr a ks i bs (.slice cl i cc))) (fun _ q _ => ks.length - (intOf q).toNat)
    case atStart => exact ⟨0, [], none, 0, rfl, rfl, by omega, hide (LI.start W a ks)⟩
    case round =>
      obtain ⟨i, bs, cl, cc, rfl, rfl, hi, HM⟩ := hrel
      by_cases hil : i < ks.length
      · have q1 : (i : Int) < (ks.length : Int) := by omega
        have q0 : (0 : Int) ≤ (i : Int) := by omega
        have w2' : IntKind.i64.wrap ((i : Int) + 1) = (i : Int) + 1 := by rw [IntKind.wrap_i64]; omega
        obtain ⟨b, off, vi, rfl, hbl, hcc, hks⟩ := NdSl.at (HVW.out.far HM.out.bel) rfl hil
        obtain ⟨z0, z1, z2, z3, z4⟩ := hcc
        have hC := build_all (a := a) _ ks[i] (Nat.le_refl _) (ndZ_of hZ.out hil) wr vi (HSW.out.below HM.out.bel) hks
        unfold ndV at hC
        have HC := hide hC
        have HST := hide (fun (w2 w4 : World) (bb : Value) (g gcap : Nat) (hb2 : Below wr.heap.size wr w2) (hbt : BtG w2 a (fun g => wr.heap.size ≤ g) bb ks[i]) (ho : w4.ownsRow W.heap.size 27 1 (.slice (some ⟨g, 0, none⟩) (i + 1) gcap) (i + 1) (bs ++ [bb])) (hg : (w2.alloc (.cells #[bb] 27)).grownBy w4 (Value.slice cl i cc).ownBlock) (hgg : (Value.slice cl i cc).ownBlock = some g ∨ g = (w2.alloc (.cells #[bb] 27)).heap.size) => LI.step HM.out hil hb2 hbt ho hg hgg)
        generalize ks[i] = y at *
        obtain ⟨ao2, cap2, rfl, _, _⟩ := hks.len
        clear hC hks hbl
        go_wp2_with fail
        refine HC.out.mono ?_
        rintro e w2 ⟨⟨bb, rfl, hbt⟩, hb2⟩
        have HBT := hide hbt
        have HB2 := hide hb2
        have hsh : bb = .nilIface ∨ ∃ u p, bb = .iface u p := by
          rcases hbt.bt.iface with ⟨h, _⟩ | ⟨u, p, h, _⟩
          · exact Or.inl h
          · exact Or.inr ⟨u, p, h⟩
        have HSZ := hide (show W.heap.size ≤ w2.heap.size from Nat.le_trans HM.out.bel.size hb2.size)
        have HOW := hide (own_far HM.out.own hb2)
        clear hbt hb2 HC z0 z1 z2 z3 z4
        rcases hsh with rfl | ⟨bu, bp, rfl⟩
        · go_wp2_with (at_builtin; refine wpList_append_err rfl _ _ rfl W.heap.size _ i bs rfl (HOW.out.alloc _) w2.heap.size 1 .nilIface rfl (by simp) rfl (by omega) (by have := HSZ.out; simp; omega) ?_; intro g gcap w4 ho hg hgg; have HO := hide ho; have HG := hide hg; have HGG := hide hgg; clear ho hg hgg)
          have HN := hide (HST.out _ _ _ g gcap HB2.out HBT.out HO.out HG.out HGG.out)
          go_roundw
          case rel => exact ⟨i + 1, bs ++ [.nilIface], _, gcap, by simp, rfl, by omega, HN⟩
          case measure => simp [intOf]; omega
        · go_wp2_with (at_builtin; refine wpList_append_err rfl _ _ rfl W.heap.size _ i bs rfl (HOW.out.alloc _) w2.heap.size 1 (.iface bu bp) rfl (by simp) rfl (by omega) (by have := HSZ.out; simp; omega) ?_; intro g gcap w4 ho hg hgg; have HO := hide ho; have HG := hide hg; have HGG := hide hgg; clear ho hg hgg)
          have HN := hide (HST.out _ _ _ g gcap HB2.out HBT.out HO.out HG.out HGG.out)
          go_roundw
          case rel => exact ⟨i + 1, bs ++ [.iface bu bp], _, gcap, by simp, rfl, by omega, HN⟩
          case measure => simp [intOf]; omega
      · have q1 : ¬ ((i : Int) < (ks.length : Int)) := by omega
        obtain rfl : i = ks.length := by omega
        have EL := hide (LI.done HM.out hkl)
        have KW := hide (K3.out.trans (HM.out.bel.mono K3.out.size))
        clear HVW HSW HHW HM
        obtain ⟨W1, rfl⟩ : ∃ W1, W1 = wr := ⟨_, rfl⟩
        go_wp2_with fail
        refine (First_any EL.out).mono ?_
        rintro e w5 ⟨⟨kf, hkf, rfl⟩, rfl⟩
        obtain ⟨W1, rfl⟩ : ∃ W1, W1 = w5 := ⟨_, rfl⟩
        have HKF := hide hkf
        obtain ⟨gv, hgv0⟩ : ∃ gv, (if kf < ks.length then bs.getD kf .nilIface else .nilIface) = gv := ⟨_, rfl⟩
        rw [hgv0]
        have hgv := hide hgv0
        clear hkf hgv0
        have HV1 := hide (HV.out.far KW.out)
        go_wp2
        go_loopw [6] (fun q wr => ∃ m : Nat, q = .int .i64 m ∧ m ≤ ks.length ∧ (∀ j (h : j < ks.length), j < m → ndNil ks[j] = true) ∧ Hid (Below W1.heap.size W1 wr)) (fun q _ => ks.length - (intOf q).toNat)
        case atStart => exact ⟨0, rfl, by omega, fun j _ h => absurd h (by omega), hide (Below.refl _ _)⟩
        case round =>
          obtain ⟨m, rfl, hm, hall, HB1⟩ := hrel
          by_cases hml0 : m < ks.length
          · have q1 : (m : Int) < (ks.length : Int) := by omega
            have q0 : (0 : Int) ≤ (m : Int) := by omega
            have w2' : IntKind.i64.wrap ((m : Int) + 1) = (m : Int) + 1 := by rw [IntKind.wrap_i64]; omega
            obtain ⟨b, off, vi, rfl, hbl, hcc, hks⟩ := NdSl.at (HV1.out.far HB1.out) rfl hml0
            obtain ⟨z0, z1, z2, z3, z4⟩ := hcc
            obtain ⟨ao2, cap2, rfl, _, _⟩ := hks.len
            have HIS := hide (ris_any (w := wr) (k := ks[m].kind) (c := ks[m].code) (a := ks[m].place) (p := ks[m].path) (ao := ao2) (ks := ks[m].kids) (cap := cap2))
            rw [show Nd.mk ks[m].kind ks[m].code ks[m].place ks[m].path ks[m].kids = ks[m] from by cases ks[m]; rfl] at HIS
            have HNX := hide (fun (h : ndNil ks[m] = true) => (show ∀ j (h : j < ks.length), j < m + 1 → ndNil ks[j] = true from fun j h2 hj => by
              rcases Nat.lt_or_ge j m with e | e
              · exact hall j h2 e
              · obtain rfl : j = m := by omega
                exact h))
            have HFN := hide (fun (h : ndNil ks[m] = false) => (show FstN ks m from ⟨hm, hall, fun _ => h⟩))
            have hyn : ndNil ks[m] = true ∨ ndNil ks[m] = false := by cases ndNil ks[m] <;> simp
            generalize ks[m] = y0 at *
            clear hks hbl hall
            rcases hyn with hyn | hyn
            · rw [hyn] at HIS
              have HN2 := hide (HNX.out hyn)
              clear HNX HFN
              go_wp2_with fail
              refine HIS.out.mono ?_
              rintro e w6 ⟨rfl, hb6⟩
              have HB2 := hide (HB1.out.trans (hb6.mono HB1.out.size))
              clear hb6 HIS z0 z1 z2 z3 z4
              go_wp2
              go_roundw
              case rel => exact ⟨m + 1, by simp, by omega, HN2.out, HB2⟩
              case measure => simp [intOf]; omega
            · rw [hyn] at HIS
              have hFm := hide (HFN.out hyn)
              have hKm := hide (HKF.out.one hFm.out)
              clear HNX HFN
              go_wp2_with fail
              refine HIS.out.mono ?_
              rintro e w6 ⟨rfl, hb6⟩
              have HB2 := hide (HB1.out.trans (hb6.mono HB1.out.size))
              clear hb6 HIS z0 z1 z2 z3 z4 HB1 hyn
              obtain ⟨wr, rfl⟩ : ∃ wr, wr = w6 := ⟨_, rfl⟩
              obtain ⟨W2, rfl⟩ : ∃ W2, W2 = wr := ⟨_, rfl⟩
              have EL2 := hide (EL.out.far HB2.out)
              have KW2 := hide (KW.out.trans (HB2.out.mono KW.out.size))
              have HV2 := hide (HV.out.far KW2.out)
              clear HB2 EL
              go_wp2
              go_loopw [7] (fun q wr => ∃ i : Nat, q = .int .i64 i ∧ i ≤ ks.length ∧ Hid (Below W2.heap.size W2 wr)) (fun q _ => ks.length - (intOf q).toNat)
              case atStart => exact ⟨0, rfl, by omega, hide (Below.refl _ _)⟩
              case round =>
                obtain ⟨i, rfl, hi, HB3⟩ := hrel
                by_cases hil : i < ks.length
                · have q1 : (i : Int) < (ks.length : Int) := by omega
                  have q0 : (0 : Int) ≤ (i : Int) := by omega
                  have w2' : IntKind.i64.wrap ((i : Int) + 1) = (i : Int) + 1 := by rw [IntKind.wrap_i64]; omega
                  obtain ⟨ao', cap', e1, _, e3, e6⟩ := EL2.out
                  cases e1
                  obtain ⟨eb, rfl, hebl, hecell⟩ := e3 (by omega)
                  have hec : W2.cell? ⟨eb, i, none⟩ = some (bs.getD i .nilIface) := hecell i hil
                  have hsh := (show Bt W2 a (bs.getD i .nilIface) ks[i] from e6 i hil).iface
                  obtain ⟨b, off, vi, hao, hbl, hcc, hks⟩ := NdSl.at HV2.out rfl hil
                  cases hao
                  generalize ks[i] = y at *
                  obtain ⟨ao2, cap2, rfl, _, _⟩ := hks.len
                  clear hecell e3 e6 hks
                  rcases hsh with ⟨hv, hyn⟩ | ⟨eu, ep, hv, hyn⟩
                  · rw [hv] at hec
                    clear hv
                    have CD : Hid (∀ u : World, Below W2.heap.size W2 u → u.cell? ⟨eb, i, none⟩ = some (.nilIface) ∧ u.cell? ⟨b, off + i * 5, none⟩ = some (.int .i64 y.kind) ∧ u.cell? ⟨b, off + i * 5 + 1, none⟩ = some (.int .i64 y.code) ∧ u.cell? ⟨b, off + i * 5 + 2, none⟩ = some (.int .i64 y.place) ∧ u.cell? ⟨b, off + i * 5 + 3, none⟩ = some (.string y.path) ∧ u.cell? ⟨b, off + i * 5 + 4, none⟩ = some (.slice ao2 y.kids.length cap2)) := hide (fun u hu => ⟨(hu.cell (p := ⟨eb, i, none⟩) hebl).trans hec, (hcc.below hu hbl).c0, (hcc.below hu hbl).c1, (hcc.below hu hbl).c2, (hcc.below hu hbl).c3, (hcc.below hu hbl).c4⟩)
                    have HIS := hide (fun (u : World) => ris_any (w := u) (k := y.kind) (c := y.code) (a := y.place) (p := y.path) (ao := ao2) (ks := y.kids) (cap := cap2))
                    rw [show Nd.mk y.kind y.code y.place y.path y.kids = y from by cases y; rfl, hyn] at HIS
                    have K : Below W2.heap.size W2 wr.drew := HB3.out.drew
                    clear hec hebl hcc hbl hyn
                    go_wp2
                    go_region_held3 (fun u => u.cell? ⟨eb, i, none⟩ = some (.nilIface) ∧ u.cell? ⟨b, off + i * 5, none⟩ = some (.int .i64 y.kind) ∧ u.cell? ⟨b, off + i * 5 + 1, none⟩ = some (.int .i64 y.code) ∧ u.cell? ⟨b, off + i * 5 + 2, none⟩ = some (.int .i64 y.place) ∧ u.cell? ⟨b, off + i * 5 + 3, none⟩ = some (.string y.path) ∧ u.cell? ⟨b, off + i * 5 + 4, none⟩ = some (.slice ao2 y.kids.length cap2)) (first | with_reducible exact CD.out _ K)
                      (first
                        | (go_at_call 23; (refine (HIS.out _).mono ?_); rintro e w6 ⟨rfl, hb6⟩; replace K := K.trans (hb6.mono K.size); clear hb6))
                    have HB4 := hide K
                    clear K CD
                    go_wp2
                    go_roundw
                    case rel => exact ⟨i + 1, by simp, by omega, HB4⟩
                    case measure => simp [intOf]; omega
                  · rw [hv] at hec
                    clear hv
                    have CD : Hid (∀ u : World, Below W2.heap.size W2 u → u.cell? ⟨eb, i, none⟩ = some (.iface eu ep) ∧ u.cell? ⟨b, off + i * 5, none⟩ = some (.int .i64 y.kind) ∧ u.cell? ⟨b, off + i * 5 + 1, none⟩ = some (.int .i64 y.code) ∧ u.cell? ⟨b, off + i * 5 + 2, none⟩ = some (.int .i64 y.place) ∧ u.cell? ⟨b, off + i * 5 + 3, none⟩ = some (.string y.path) ∧ u.cell? ⟨b, off + i * 5 + 4, none⟩ = some (.slice ao2 y.kids.length cap2)) := hide (fun u hu => ⟨(hu.cell (p := ⟨eb, i, none⟩) hebl).trans hec, (hcc.below hu hbl).c0, (hcc.below hu hbl).c1, (hcc.below hu hbl).c2, (hcc.below hu hbl).c3, (hcc.below hu hbl).c4⟩)
                    have HIS := hide (fun (u : World) => ris_any (w := u) (k := y.kind) (c := y.code) (a := y.place) (p := y.path) (ao := ao2) (ks := y.kids) (cap := cap2))
                    rw [show Nd.mk y.kind y.code y.place y.path y.kids = y from by cases y; rfl, hyn] at HIS
                    have K : Below W2.heap.size W2 wr.drew := HB3.out.drew
                    clear hec hebl hcc hbl hyn
                    go_wp2
                    go_region_held3 (fun u => u.cell? ⟨eb, i, none⟩ = some (.iface eu ep) ∧ u.cell? ⟨b, off + i * 5, none⟩ = some (.int .i64 y.kind) ∧ u.cell? ⟨b, off + i * 5 + 1, none⟩ = some (.int .i64 y.code) ∧ u.cell? ⟨b, off + i * 5 + 2, none⟩ = some (.int .i64 y.place) ∧ u.cell? ⟨b, off + i * 5 + 3, none⟩ = some (.string y.path) ∧ u.cell? ⟨b, off + i * 5 + 4, none⟩ = some (.slice ao2 y.kids.length cap2)) (first | with_reducible exact CD.out _ K)
                      (first
                        | (go_at_call 23; (refine (HIS.out _).mono ?_); rintro e w6 ⟨rfl, hb6⟩; replace K := K.trans (hb6.mono K.size); clear hb6))
                    have HB4 := hide K
                    clear K CD
                    go_wp2
                    go_roundw
                    case rel => exact ⟨i + 1, by simp, by omega, HB4⟩
                    case measure => simp [intOf]; omega
                · have q1 : ¬ ((i : Int) < (ks.length : Int)) := by omega
                  have K9 := hide (KW2.out.trans (HB3.out.mono KW2.out.size))
                  by_cases hml : m < ks.length
                  · have qm : (m : Int) < (ks.length : Int) := by omega
                    have qe : ((m : Int) == (ks.length : Int)) = false := beq_eq_false_iff_ne.2 (by omega)
                    have qm0 : (0 : Int) ≤ (m : Int) := by omega
                    obtain ⟨ao', cap', e1, _, e3, e6⟩ := EL2.out
                    cases e1
                    have hbt : Bt wr a (bs.getD m .nilIface) ks[m] := (e6 m hml).far HB3.out
                    have hgv2 : gv = bs.getD m .nilIface := by rw [← hgv.out, hKm.out, if_pos hml]
                    rw [← hgv2] at hbt
                    have hyn := hFm.out.2.2 hml
                    obtain ⟨b, off, vi, hao, hbl, hcc, hks⟩ := NdSl.at HV2.out rfl hml
                    cases hao
                    generalize ks[m] = y at *
                    have HBT := hide hbt
                    obtain ⟨eu, ep, hge⟩ : ∃ eu ep, gv = .iface eu ep := by
                      rcases hbt.iface with ⟨_, h⟩ | ⟨u, p, h, _⟩
                      · rw [h] at hyn; cases hyn
                      · exact ⟨u, p, h⟩
                    have HOf := hide (fun (u : World) (hu : Below W2.heap.size W2 u) => rOf_any (hks.far hu))
                    have HCd := hide (fun (u : World) (hu : Below W2.heap.size W2 u) => rCode_any (hks.far hu))
                    have HER := hide (fun (u : World) (hu : Below wr.heap.size wr u) => (show Er u a gv (fun i => ndB i y) (ndO y) from er_bt ((HS.out.below K9.out).below hu) ((HH.out.below K9.out).below hu) (HBT.out.far hu) hyn))
                    have HSR := hide (HS.out.below K9.out)
                    have HHR := hide (HH.out.below K9.out)
                    obtain ⟨ao2, cap2, rfl, _, _⟩ := hks.len
                    have CD := hide (fun (u : World) (hu : Below W2.heap.size W2 u) => hcc.below hu hbl)
                    unfold ndV at HOf HCd
                    rw [if_neg (by rw [hyn]; decide)] at HCd
                    subst hge
                    clear hbt hgv hKm hFm e3 e6 hks hbl hcc hgv2
                    obtain ⟨z0, z1, z2, z3, z4⟩ := CD.out wr HB3.out
                    go_wp2_with fail
                    refine (HOf.out _ HB3.out).mono ?_
                    rintro e w5 ⟨rfl, hb5⟩
                    have R5 := hide hb5
                    have B5 := hide (HB3.out.trans (hb5.mono HB3.out.size))
                    clear hb5 z0 z1 z2 z3 z4 HOf
                    obtain ⟨z0, z1, z2, z3, z4⟩ := CD.out w5 B5.out
                    go_wp2_with fail
                    refine (HCd.out _ B5.out).mono ?_
                    rintro e w6 ⟨rfl, hb6⟩
                    have R6 := hide (R5.out.trans (hb6.mono R5.out.size))
                    have B6 := hide (B5.out.trans (hb6.mono B5.out.size))
                    clear hb6 z0 z1 z2 z3 z4
                    go_wp2_with fail
                    refine (has_true (HSR.out.below R6.out) (HER.out _ R6.out)).mono ?_
                    rintro e w7 ⟨rfl, hb7⟩
                    have R7 := hide (R6.out.trans (hb7.mono R6.out.size))
                    have B7 := hide (B6.out.trans (hb7.mono B6.out.size))
                    clear hb7
                    obtain ⟨z0, z1, z2, z3, z4⟩ := CD.out w7 B7.out
                    go_wp2_with fail
                    refine (HCd.out _ B7.out).mono ?_
                    rintro e w8 ⟨rfl, hb8⟩
                    have R8 := hide (R7.out.trans (hb8.mono R7.out.size))
                    clear hb8 z0 z1 z2 z3 z4
                    go_wp2_with fail
                    refine (tells_true (HSR.out.below R8.out) (HER.out _ R8.out)).mono ?_
                    rintro e w9 ⟨rfl, hb9⟩
                    have R9 := hide (R8.out.trans (hb9.mono R8.out.size))
                    clear hb9
                    go_wp2_with fail
                    refine (lives13 (HSR.out.below R9.out) (HHR.out.below R9.out)).mono ?_
                    rintro e w10 ⟨rfl, hb10⟩
                    have K10 := hide (K9.out.trans ((R9.out.trans (hb10.mono R9.out.size)).mono K9.out.size))
                    clear hb10
                    go_wp2
                    go_ret
                    exact ⟨rfl, K10.out⟩
                  · have hml2 : m = ks.length := by have := hFm.out.1; omega
                    have qe : ((m : Int) == (ks.length : Int)) = true := by rw [hml2]; simp
                    have hge : gv = .nilIface := by rw [← hgv.out, hKm.out, if_neg hml]
                    subst hge
                    clear hgv hKm hFm
                    go_wp2_with fail
                    refine (lives13 (HS.out.below K9.out) (HH.out.below K9.out)).mono ?_
                    rintro e w10 ⟨rfl, hb10⟩
                    have K10 := hide (K9.out.trans (hb10.mono K9.out.size))
                    clear hb10
                    go_wp2
                    go_ret
                    exact ⟨rfl, K10.out⟩
          · have q1 : ¬ ((m : Int) < (ks.length : Int)) := by omega
            have hFm := hide (show FstN ks m from ⟨hm, hall, fun h => absurd h hml0⟩)
            have hKm := hide (HKF.out.one hFm.out)
            have HB2 := hide HB1.out
            clear hall HB1 hml0
            obtain ⟨W2, rfl⟩ : ∃ W2, W2 = wr := ⟨_, rfl⟩
            have EL2 := hide (EL.out.far HB2.out)
            have KW2 := hide (KW.out.trans (HB2.out.mono KW.out.size))
            have HV2 := hide (HV.out.far KW2.out)
            clear HB2 EL
            go_wp2
            go_loopw [7] (fun q wr => ∃ i : Nat, q = .int .i64 i ∧ i ≤ ks.length ∧ Hid (Below W2.heap.size W2 wr)) (fun q _ => ks.length - (intOf q).toNat)
            case atStart => exact ⟨0, rfl, by omega, hide (Below.refl _ _)⟩
            case round =>
              obtain ⟨i, rfl, hi, HB3⟩ := hrel
              by_cases hil : i < ks.length
              · have q1 : (i : Int) < (ks.length : Int) := by omega
                have q0 : (0 : Int) ≤ (i : Int) := by omega
                have w2' : IntKind.i64.wrap ((i : Int) + 1) = (i : Int) + 1 := by rw [IntKind.wrap_i64]; omega
                obtain ⟨ao', cap', e1, _, e3, e6⟩ := EL2.out
                cases e1
                obtain ⟨eb, rfl, hebl, hecell⟩ := e3 (by omega)
                have hec : W2.cell? ⟨eb, i, none⟩ = some (bs.getD i .nilIface) := hecell i hil
                have hsh := (show Bt W2 a (bs.getD i .nilIface) ks[i] from e6 i hil).iface
                obtain ⟨b, off, vi, hao, hbl, hcc, hks⟩ := NdSl.at HV2.out rfl hil
                cases hao
                generalize ks[i] = y at *
                obtain ⟨ao2, cap2, rfl, _, _⟩ := hks.len
                clear hecell e3 e6 hks
                rcases hsh with ⟨hv, hyn⟩ | ⟨eu, ep, hv, hyn⟩
                · rw [hv] at hec
                  clear hv
                  have CD : Hid (∀ u : World, Below W2.heap.size W2 u → u.cell? ⟨eb, i, none⟩ = some (.nilIface) ∧ u.cell? ⟨b, off + i * 5, none⟩ = some (.int .i64 y.kind) ∧ u.cell? ⟨b, off + i * 5 + 1, none⟩ = some (.int .i64 y.code) ∧ u.cell? ⟨b, off + i * 5 + 2, none⟩ = some (.int .i64 y.place) ∧ u.cell? ⟨b, off + i * 5 + 3, none⟩ = some (.string y.path) ∧ u.cell? ⟨b, off + i * 5 + 4, none⟩ = some (.slice ao2 y.kids.length cap2)) := hide (fun u hu => ⟨(hu.cell (p := ⟨eb, i, none⟩) hebl).trans hec, (hcc.below hu hbl).c0, (hcc.below hu hbl).c1, (hcc.below hu hbl).c2, (hcc.below hu hbl).c3, (hcc.below hu hbl).c4⟩)
                  have HIS := hide (fun (u : World) => ris_any (w := u) (k := y.kind) (c := y.code) (a := y.place) (p := y.path) (ao := ao2) (ks := y.kids) (cap := cap2))
                  rw [show Nd.mk y.kind y.code y.place y.path y.kids = y from by cases y; rfl, hyn] at HIS
                  have K : Below W2.heap.size W2 wr.drew := HB3.out.drew
                  clear hec hebl hcc hbl hyn
                  go_wp2
                  go_region_held3 (fun u => u.cell? ⟨eb, i, none⟩ = some (.nilIface) ∧ u.cell? ⟨b, off + i * 5, none⟩ = some (.int .i64 y.kind) ∧ u.cell? ⟨b, off + i * 5 + 1, none⟩ = some (.int .i64 y.code) ∧ u.cell? ⟨b, off + i * 5 + 2, none⟩ = some (.int .i64 y.place) ∧ u.cell? ⟨b, off + i * 5 + 3, none⟩ = some (.string y.path) ∧ u.cell? ⟨b, off + i * 5 + 4, none⟩ = some (.slice ao2 y.kids.length cap2)) (first | with_reducible exact CD.out _ K)
                    (first
                      | (go_at_call 23; (refine (HIS.out _).mono ?_); rintro e w6 ⟨rfl, hb6⟩; replace K := K.trans (hb6.mono K.size); clear hb6))
                  have HB4 := hide K
                  clear K CD
                  go_wp2
                  go_roundw
                  case rel => exact ⟨i + 1, by simp, by omega, HB4⟩
                  case measure => simp [intOf]; omega
                · rw [hv] at hec
                  clear hv
                  have CD : Hid (∀ u : World, Below W2.heap.size W2 u → u.cell? ⟨eb, i, none⟩ = some (.iface eu ep) ∧ u.cell? ⟨b, off + i * 5, none⟩ = some (.int .i64 y.kind) ∧ u.cell? ⟨b, off + i * 5 + 1, none⟩ = some (.int .i64 y.code) ∧ u.cell? ⟨b, off + i * 5 + 2, none⟩ = some (.int .i64 y.place) ∧ u.cell? ⟨b, off + i * 5 + 3, none⟩ = some (.string y.path) ∧ u.cell? ⟨b, off + i * 5 + 4, none⟩ = some (.slice ao2 y.kids.length cap2)) := hide (fun u hu => ⟨(hu.cell (p := ⟨eb, i, none⟩) hebl).trans hec, (hcc.below hu hbl).c0, (hcc.below hu hbl).c1, (hcc.below hu hbl).c2, (hcc.below hu hbl).c3, (hcc.below hu hbl).c4⟩)
                  have HIS := hide (fun (u : World) => ris_any (w := u) (k := y.kind) (c := y.code) (a := y.place) (p := y.path) (ao := ao2) (ks := y.kids) (cap := cap2))
                  rw [show Nd.mk y.kind y.code y.place y.path y.kids = y from by cases y; rfl, hyn] at HIS
                  have K : Below W2.heap.size W2 wr.drew := HB3.out.drew
                  clear hec hebl hcc hbl hyn
                  go_wp2
                  go_region_held3 (fun u => u.cell? ⟨eb, i, none⟩ = some (.iface eu ep) ∧ u.cell? ⟨b, off + i * 5, none⟩ = some (.int .i64 y.kind) ∧ u.cell? ⟨b, off + i * 5 + 1, none⟩ = some (.int .i64 y.code) ∧ u.cell? ⟨b, off + i * 5 + 2, none⟩ = some (.int .i64 y.place) ∧ u.cell? ⟨b, off + i * 5 + 3, none⟩ = some (.string y.path) ∧ u.cell? ⟨b, off + i * 5 + 4, none⟩ = some (.slice ao2 y.kids.length cap2)) (first | with_reducible exact CD.out _ K)
                    (first
                      | (go_at_call 23; (refine (HIS.out _).mono ?_); rintro e w6 ⟨rfl, hb6⟩; replace K := K.trans (hb6.mono K.size); clear hb6))
                  have HB4 := hide K
                  clear K CD
                  go_wp2
                  go_roundw
                  case rel => exact ⟨i + 1, by simp, by omega, HB4⟩
                  case measure => simp [intOf]; omega
              · have q1 : ¬ ((i : Int) < (ks.length : Int)) := by omega
                have K9 := hide (KW2.out.trans (HB3.out.mono KW2.out.size))
                by_cases hml : m < ks.length
                · have qm : (m : Int) < (ks.length : Int) := by omega
                  have qe : ((m : Int) == (ks.length : Int)) = false := beq_eq_false_iff_ne.2 (by omega)
                  have qm0 : (0 : Int) ≤ (m : Int) := by omega
                  obtain ⟨ao', cap', e1, _, e3, e6⟩ := EL2.out
                  cases e1
                  have hbt : Bt wr a (bs.getD m .nilIface) ks[m] := (e6 m hml).far HB3.out
                  have hgv2 : gv = bs.getD m .nilIface := by rw [← hgv.out, hKm.out, if_pos hml]
                  rw [← hgv2] at hbt
                  have hyn := hFm.out.2.2 hml
                  obtain ⟨b, off, vi, hao, hbl, hcc, hks⟩ := NdSl.at HV2.out rfl hml
                  cases hao
                  generalize ks[m] = y at *
                  have HBT := hide hbt
                  obtain ⟨eu, ep, hge⟩ : ∃ eu ep, gv = .iface eu ep := by
                    rcases hbt.iface with ⟨_, h⟩ | ⟨u, p, h, _⟩
                    · rw [h] at hyn; cases hyn
                    · exact ⟨u, p, h⟩
                  have HOf := hide (fun (u : World) (hu : Below W2.heap.size W2 u) => rOf_any (hks.far hu))
                  have HCd := hide (fun (u : World) (hu : Below W2.heap.size W2 u) => rCode_any (hks.far hu))
                  have HER := hide (fun (u : World) (hu : Below wr.heap.size wr u) => (show Er u a gv (fun i => ndB i y) (ndO y) from er_bt ((HS.out.below K9.out).below hu) ((HH.out.below K9.out).below hu) (HBT.out.far hu) hyn))
                  have HSR := hide (HS.out.below K9.out)
                  have HHR := hide (HH.out.below K9.out)
                  obtain ⟨ao2, cap2, rfl, _, _⟩ := hks.len
                  have CD := hide (fun (u : World) (hu : Below W2.heap.size W2 u) => hcc.below hu hbl)
                  unfold ndV at HOf HCd
                  rw [if_neg (by rw [hyn]; decide)] at HCd
                  subst hge
                  clear hbt hgv hKm hFm e3 e6 hks hbl hcc hgv2
                  obtain ⟨z0, z1, z2, z3, z4⟩ := CD.out wr HB3.out
                  go_wp2_with fail
                  refine (HOf.out _ HB3.out).mono ?_
                  rintro e w5 ⟨rfl, hb5⟩
                  have R5 := hide hb5
                  have B5 := hide (HB3.out.trans (hb5.mono HB3.out.size))
                  clear hb5 z0 z1 z2 z3 z4 HOf
                  obtain ⟨z0, z1, z2, z3, z4⟩ := CD.out w5 B5.out
                  go_wp2_with fail
                  refine (HCd.out _ B5.out).mono ?_
                  rintro e w6 ⟨rfl, hb6⟩
                  have R6 := hide (R5.out.trans (hb6.mono R5.out.size))
                  have B6 := hide (B5.out.trans (hb6.mono B5.out.size))
                  clear hb6 z0 z1 z2 z3 z4
                  go_wp2_with fail
                  refine (has_true (HSR.out.below R6.out) (HER.out _ R6.out)).mono ?_
                  rintro e w7 ⟨rfl, hb7⟩
                  have R7 := hide (R6.out.trans (hb7.mono R6.out.size))
                  have B7 := hide (B6.out.trans (hb7.mono B6.out.size))
                  clear hb7
                  obtain ⟨z0, z1, z2, z3, z4⟩ := CD.out w7 B7.out
                  go_wp2_with fail
                  refine (HCd.out _ B7.out).mono ?_
                  rintro e w8 ⟨rfl, hb8⟩
                  have R8 := hide (R7.out.trans (hb8.mono R7.out.size))
                  clear hb8 z0 z1 z2 z3 z4
                  go_wp2_with fail
                  refine (tells_true (HSR.out.below R8.out) (HER.out _ R8.out)).mono ?_
                  rintro e w9 ⟨rfl, hb9⟩
                  have R9 := hide (R8.out.trans (hb9.mono R8.out.size))
                  clear hb9
                  go_wp2_with fail
                  refine (lives13 (HSR.out.below R9.out) (HHR.out.below R9.out)).mono ?_
                  rintro e w10 ⟨rfl, hb10⟩
                  have K10 := hide (K9.out.trans ((R9.out.trans (hb10.mono R9.out.size)).mono K9.out.size))
                  clear hb10
                  go_wp2
                  go_ret
                  exact ⟨rfl, K10.out⟩
                · have hml2 : m = ks.length := by have := hFm.out.1; omega
                  have qe : ((m : Int) == (ks.length : Int)) = true := by rw [hml2]; simp
                  have hge : gv = .nilIface := by rw [← hgv.out, hKm.out, if_neg hml]
                  subst hge
                  clear hgv hKm hFm
                  go_wp2_with fail
                  refine (lives13 (HS.out.below K9.out) (HH.out.below K9.out)).mono ?_
                  rintro e w10 ⟨rfl, hb10⟩
                  have K10 := hide (K9.out.trans (hb10.mono K9.out.size))
                  clear hb10
                  go_wp2
                  go_ret
                  exact ⟨rfl, K10.out⟩

end Go.Proofs.YtbkgphglojjllaaDoor
