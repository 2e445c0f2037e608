/- errors.is and errors.Is of errors that are built of nodes -/
import Derived.Test.YtbkgphglojjllaaDoorFBt
namespace Go.Proofs.YtbkgphglojjllaaDoor
open Go.RowKit Go.Extern.Stop Go.Stop Go.Extern
set_option linter.unusedVariables false

theorem sz_pos (x : Nd) : 0 < SizeOf.sizeOf x := by cases x; simp; omega
theorem manyUn_any {w : World} {g : Nat} {v : Value} (c0 : w.cell? ⟨g, 0, none⟩ = some v) :
    Calls Tryd.prog 99 #[.pointer (some ⟨g, 0, none⟩)] w fun e w' => e = .returned v ∧ w' = w := by
  go_enter Tryd.func99, Tryd.ntmps99
  go_wp2
  go_ret
  exact ⟨rfl, rfl⟩
theorem anyB_take {xs : List Nd} {j : Nat} (h : j < xs.length) (i : Nat) : anyB i (xs.take (j + 1)) = (anyB i (xs.take j) || ndB i xs[j]) := by
  induction xs generalizing j with
  | nil => simp at h
  | cons x l ih =>
    cases j with
    | zero => simp [anyB]
    | succ j =>
      simp only [List.take_succ_cons, anyB, List.getElem_cons_succ]
      rw [ih (by simpa using h), Bool.or_assoc]
theorem anyB_true {xs : List Nd} {j : Nat} (h : j < xs.length) {i : Nat} (hb : ndB i xs[j] = true) : anyB i xs = true := by
  induction xs generalizing j with
  | nil => simp at h
  | cons x l ih =>
    cases j with
    | zero => simp only [List.getElem_cons_zero] at hb; simp only [anyB, hb, Bool.true_or]
    | succ j =>
      simp only [List.getElem_cons_succ] at hb
      simp only [anyB, ih (by simpa using h) hb, Bool.or_true]
set_option maxHeartbeats 4000000 in
set_option maxRecDepth 100000 in
theorem claimIs_any {w : World} {a : Nat → Addr} {g i : Nat} {c : Int} (hi : i < 11) (hS : Snt w a) (hg : w.heap[g]? = some (.cells #[.int .i64 c] 75 (0, 0))) :
    Calls Tryd.prog 101 #[.pointer (some ⟨g, 0, none⟩), .iface 95 (.pointer (some (a i)))] w fun e w' => e = .returned (.bool (decide (c = (i : Int) + 1))) ∧ Below w.heap.size w w' := by
  obtain ⟨ii, hinf, hcmp⟩ := Option.map_eq_some_iff.1 eComp
  obtain ⟨jj, hj, hjs⟩ := Option.map_eq_some_iff.1 eSize
  have c0 : w.cell? ⟨g, 0, none⟩ = some (.int .i64 c) := by rw [Lib.cell_of_heap hg]; rfl
  have HS := hide hS
  clear hS hg
  by_cases hc : c < 1 ∨ 11 < c
  · rw [decide_eq_false (by omega)]
    have HN := hide (sentinel_none HS.out hc)
    clear hc
    go_enter Tryd.func101, Tryd.ntmps101
    go_wp2_with fail
    refine HN.out.mono ?_
    rintro e w1 ⟨rfl, hb1⟩
    have K1 := hide hb1
    clear hb1
    go_wp2
    go_ret
    exact ⟨rfl, K1.out⟩
  · obtain ⟨m, rfl⟩ : ∃ m : Nat, c = (m : Int) + 1 := ⟨(c - 1).toNat, by omega⟩
    have hm : m < 11 := by omega
    have HN := hide (sentinel_some HS.out hm)
    clear hc
    by_cases hmi : m = i
    · subst hmi
      rw [decide_eq_true rfl]
      go_enter Tryd.func101, Tryd.ntmps101
      go_wp2_with fail
      refine HN.out.mono ?_
      rintro e w1 ⟨rfl, hb1⟩
      have heq := run_eql_iface_ptr_same (P := Tryd.prog) w1 (a m) Tryd.underlying27 Tryd.underlying95 hinf hcmp hj
      have K1 := hide hb1
      clear hb1
      go_wp2
      go_ret
      exact ⟨rfl, K1.out⟩
    · rw [decide_eq_false (by omega)]
      go_enter Tryd.func101, Tryd.ntmps101
      go_wp2_with fail
      refine HN.out.mono ?_
      rintro e w1 ⟨rfl, hb1⟩
      obtain ⟨c1, t1, o1⟩ := (HS.out.below hb1).obj m (by omega)
      obtain ⟨c2, t2, o2⟩ := (HS.out.below hb1).obj i (by omega)
      have heq := run_eql_iface_ptr_other (P := Tryd.prog) w1 Tryd.underlying27 Tryd.underlying95 hinf hcmp hj (by rw [hjs]; decide) (HS.out.ne i m (by omega) (by omega) (fun e => hmi e.symm)) o2 o1
      have K1 := hide hb1
      clear hb1 o1 o2
      go_wp2
      go_ret
      exact ⟨rfl, K1.out⟩
set_option maxHeartbeats 8000000 in
set_option maxRecDepth 100000 in
theorem is_all {a : Nat → Addr} {i : Nat} (hi : i < 11) : ∀ (N : Nat) (x : Nd), SizeOf.sizeOf x ≤ N → ∀ (w : World) (v : Value), Snt w a → Bt w a v x →
    Calls Tryd.prog 50 #[v, .iface 95 (.pointer (some (a i))), .bool true] w fun e w' => e = .returned (.bool (ndB i x)) ∧ Below w.heap.size w w' := by
  intro N
  induction N with
  | zero => intro x hx; have := sz_pos x; omega
  | succ N ih =>
    intro x hx w v hS hBt
    rcases hBt.iface with ⟨rfl, hn⟩ | ⟨u, p, rfl, hn⟩
    · rw [nd_nil_any hn hi]
      exact is_nil13.mono fun e w' ⟨h1, h2⟩ => ⟨h1, h2 ▸ Below.refl _ _⟩
    obtain ⟨r, hr⟩ : ∃ r, ndB i x = r := ⟨_, rfl⟩
    rw [hr]
    obtain ⟨ii, hinf, hcmp⟩ := Option.map_eq_some_iff.1 eComp
    obtain ⟨jj, hj, hjs⟩ := Option.map_eq_some_iff.1 eSize
    have HS := hide hS
    have IH := hide ih
    have HBt := hide hBt
    have HX := hide hx
    have hsl := sz_pos x
    clear hS ih hBt
    go_enter Tryd.func50, Tryd.ntmps50
    go_wp2
    go_loopg [0] (SizeOf.sizeOf x) (fun gm er wr => ∃ y : Nd, gm = SizeOf.sizeOf y ∧ SizeOf.sizeOf y ≤ N + 1 ∧ ndNil y = false ∧ ndB i y = r ∧ Hid (Bt wr a er y) ∧ Hid (Below w.heap.size w wr))
    case atStart => exact ⟨x, rfl, HX.out, hn, hr, HBt, hide (Below.refl _ _)⟩
    case round =>
      obtain ⟨y, rfl, hys, hyn, hyr, HY, HB⟩ := hrel
      have HSr := hide (HS.out.below HB.out)
      clear HBt hn hr
      have hB := HY.out
      cases hB with
      | nil _ hk => rw [hk] at hyn; cases hyn
      | api _ m hk hm hc =>
        rw [ndB_eq, if_pos (Or.inl hk), hc] at hyr
        have nE := eNoIsE
        have uE := eNoUnwrapE
        have vE := eNoUnwrapsE
        by_cases hmi : m = i
        · subst hmi
          have hyr' : r = true := by rw [← hyr]; simp
          subst hyr'
          have heq := run_eql_iface_ptr_same (P := Tryd.prog) wr (a m) Tryd.underlying27 Tryd.underlying95 hinf hcmp hj
          clear hyr hyn hk hc
          go_wp2
          go_ret
          exact ⟨rfl, HB.out⟩
        · have hyr' : r = false := by rw [← hyr]; exact decide_eq_false (by omega)
          subst hyr'
          obtain ⟨c1, t1, o1⟩ := HSr.out.obj m (by omega)
          obtain ⟨c2, t2, o2⟩ := HSr.out.obj i (by omega)
          have heq := run_eql_iface_ptr_other (P := Tryd.prog) wr Tryd.underlying27 Tryd.underlying95 hinf hcmp hj (by rw [hjs]; decide) (HSr.out.ne m i (by omega) (by omega) hmi) o1 o2
          clear hyr hyn hk hc o1 o2
          go_wp2
          go_ret
          exact ⟨rfl, HB.out⟩
      | other _ g s hk hg hne =>
        rw [ndB_eq, if_neg (by omega), if_neg (by omega), if_neg (by omega)] at hyr
        subst hyr
        have nE := eNoIsE
        have uE := eNoUnwrapE
        have vE := eNoUnwrapsE
        obtain ⟨c2, t2, o2⟩ := HSr.out.obj i (by omega)
        have heq := run_eql_iface_ptr_other (P := Tryd.prog) wr (a := ⟨g, 0, none⟩) (b := a i) Tryd.underlying27 Tryd.underlying95 hinf hcmp hj (by rw [hjs]; decide) (fun e => hne i (by omega) (by rw [← e])) hg o2
        clear hyn hk o2 hg hne
        go_wp2
        go_ret
        exact ⟨rfl, HB.out⟩
      | flt _ g e hk hg h0 h1 =>
        rw [ndB_eq, if_neg (by omega), if_pos (Or.inl hk)] at hyr
        have nW := eNoIsF
        have uW := eUnwrapF
        have mU := eMethodUnwrap
        have hty := run_eql_iface_types (P := Tryd.prog) 41 95 (.pointer (some ⟨g, 0, none⟩)) (.pointer (some (a i))) Tryd.underlying27 (by decide) wr
        have c0 : wr.cell? ⟨g, 0, none⟩ = some e := by rw [Lib.cell_of_heap hg]; rfl
        rcases Nat.eq_zero_or_pos y.kids.length with hz | hz
        · have hk0 := List.eq_nil_of_length_eq_zero hz
          rw [h0 hk0] at c0
          rw [hk0] at hyr
          simp only [hdB] at hyr
          subst hyr
          clear hg h0 h1 hyn hk hk0 hz
          go_wp2
          go_ret
          exact ⟨rfl, HB.out⟩
        · have hkid := h1 hz
          have hlt := Nd.kid_lt hz
          have hyr2 : ndB i y.kids[0] = r := by rw [← hyr, ← hdB_get hz i, List.drop_zero]
          obtain ⟨z, hz2⟩ : ∃ z, y.kids[0] = z := ⟨_, rfl⟩
          rw [hz2] at hkid hlt hyr2
          clear hg h0 h1 hyn hk hyr hz hz2
          rcases hkid.iface with ⟨rfl, hzn⟩ | ⟨u2, p2, rfl, hzn⟩
          · rw [nd_nil_any hzn hi] at hyr2
            subst hyr2
            clear hkid
            go_wp2
            go_ret
            exact ⟨rfl, HB.out⟩
          · have HKID := hide hkid
            clear hkid
            go_wp2
            go_roundg (SizeOf.sizeOf z)
            case measure => omega
            case rel => exact ⟨z, rfl, by omega, hzn, hyr2, HKID, HB⟩
      | wraps _ g e hk hg h0 h1 =>
        rw [ndB_eq, if_neg (by omega), if_pos (Or.inr hk)] at hyr
        have nW := bOneNoIs
        have uW := bOneHasUn
        have mU := bOneM
        have hty := run_eql_iface_types (P := Tryd.prog) 67 95 (.pointer (some ⟨g, 0, none⟩)) (.pointer (some (a i))) Tryd.underlying27 (by decide) wr
        have c0 : wr.cell? ⟨g, 0, none⟩ = some e := by rw [Lib.cell_of_heap hg]; rfl
        rcases Nat.eq_zero_or_pos y.kids.length with hz | hz
        · have hk0 := List.eq_nil_of_length_eq_zero hz
          rw [h0 hk0] at c0
          rw [hk0] at hyr
          simp only [hdB] at hyr
          subst hyr
          clear hg h0 h1 hyn hk hk0 hz
          go_wp2
          go_ret
          exact ⟨rfl, HB.out⟩
        · have hkid := h1 hz
          have hlt := Nd.kid_lt hz
          have hyr2 : ndB i y.kids[0] = r := by rw [← hyr, ← hdB_get hz i, List.drop_zero]
          obtain ⟨z, hz2⟩ : ∃ z, y.kids[0] = z := ⟨_, rfl⟩
          rw [hz2] at hkid hlt hyr2
          clear hg h0 h1 hyn hk hyr hz hz2
          rcases hkid.iface with ⟨rfl, hzn⟩ | ⟨u2, p2, rfl, hzn⟩
          · rw [nd_nil_any hzn hi] at hyr2
            subst hyr2
            clear hkid
            go_wp2
            go_ret
            exact ⟨rfl, HB.out⟩
          · have HKID := hide hkid
            clear hkid
            go_wp2
            go_roundg (SizeOf.sizeOf z)
            case measure => omega
            case rel => exact ⟨z, rfl, by omega, hzn, hyr2, HKID, HB⟩
      | many _ g ao cap vs hk hg hl hx h1 =>
        rw [ndB_eq, if_neg (by omega), if_neg (by omega), if_pos hk] at hyr
        have nW := bManyNoIs
        have uW := bManyNoUn
        have vW := bManyHasUs
        have mU := bManyM
        have hty := run_eql_iface_types (P := Tryd.prog) 70 95 (.pointer (some ⟨g, 0, none⟩)) (.pointer (some (a i))) Tryd.underlying27 (by decide) wr
        have c0 : wr.cell? ⟨g, 0, none⟩ = some (.slice ao y.kids.length cap) := by rw [Lib.cell_of_heap hg]; rfl
        have H1 := hide h1
        have HXX := hide hx
        have HYR := hide hyr
        have HLT := hide (fun j (h : j < y.kids.length) => Nd.kid_lt h)
        clear hyr hyn hk hg hx h1
        go_wp2_with fail
        refine (manyUn_any c0).mono ?_
        rintro e w9 ⟨rfl, rfl⟩
        obtain ⟨Wb, rfl⟩ : ∃ Wb, Wb = w9 := ⟨_, rfl⟩
        go_wp2
        go_loopw [12, 45] (fun q12 q wi => ∃ (j : Nat), q = .int .i64 j ∧ j ≤ y.kids.length ∧ anyB i (y.kids.take j) = false ∧ Hid (Below Wb.heap.size Wb wi)) (fun _ q _ => y.kids.length - (intOf q).toNat)
        case atStart => exact ⟨0, rfl, by omega, by simp [anyB], hide (Below.refl _ _)⟩
        case round =>
          obtain ⟨j, rfl, hj2, hany, HI⟩ := hrel
          by_cases hjl : j < y.kids.length
          · have q1 : (j : Int) < (y.kids.length : Int) := by omega
            have q0 : (0 : Int) ≤ (j : Int) := by omega
            obtain ⟨b, rfl, hbl, hcell⟩ := HXX.out (by omega)
            have cj := (HI.out.cell (p := ⟨b, j, none⟩) hbl).trans (hcell j hjl)
            have hcall := IH.out y.kids[j] (by have := HLT.out j hjl; omega) wr (vs j) (HSr.out.below HI.out) ((H1.out j hjl).far HI.out)
            have HC := hide hcall
            have htk := hide (anyB_take hjl i)
            have htr := hide (fun h : ndB i y.kids[j] = true => anyB_true hjl h)
            have hvi := (H1.out j hjl).iface
            generalize y.kids[j] = z at *
            have w2' : IntKind.i64.wrap ((j : Int) + 1) = (j : Int) + 1 := by rw [IntKind.wrap_i64]; omega
            clear hcall hcell hbl c0
            generalize vs j = vj at *
            have hvj : vj = .nilIface ∨ ∃ u p, vj = .iface u p := by
              rcases hvi with ⟨h, _⟩ | ⟨u, p, h, _⟩
              · exact Or.inl h
              · exact Or.inr ⟨u, p, h⟩
            clear hvi
            rcases hvj with rfl | ⟨uj, pj, rfl⟩
            · go_wp2_with fail
              refine HC.out.mono ?_
              rintro e w2 ⟨rfl, hb2⟩
              have HI2 := hide (HI.out.trans (hb2.mono HI.out.size))
              have KR := hide (HB.out.trans (HI2.out.mono HB.out.size))
              clear hb2 HC cj
              cases hz : ndB i z with
              | true =>
                have hrt : r = true := HYR.out.symm.trans (htr.out hz)
                subst hrt
                clear hz
                go_wp2
                go_ret
                exact ⟨rfl, KR.out⟩
              | false =>
                have hnx := hide (show anyB i (y.kids.take (j + 1)) = false from by rw [htk.out, hany, hz]; rfl)
                clear hz
                go_wp2
                go_roundw
                case rel => exact ⟨j + 1, by simp, by omega, hnx.out, HI2⟩
                case measure => simp [intOf]; omega
            · go_wp2_with fail
              refine HC.out.mono ?_
              rintro e w2 ⟨rfl, hb2⟩
              have HI2 := hide (HI.out.trans (hb2.mono HI.out.size))
              have KR := hide (HB.out.trans (HI2.out.mono HB.out.size))
              clear hb2 HC cj
              cases hz : ndB i z with
              | true =>
                have hrt : r = true := HYR.out.symm.trans (htr.out hz)
                subst hrt
                clear hz
                go_wp2
                go_ret
                exact ⟨rfl, KR.out⟩
              | false =>
                have hnx := hide (show anyB i (y.kids.take (j + 1)) = false from by rw [htk.out, hany, hz]; rfl)
                clear hz
                go_wp2
                go_roundw
                case rel => exact ⟨j + 1, by simp, by omega, hnx.out, HI2⟩
                case measure => simp [intOf]; omega
          · have q1 : ¬ ((j : Int) < (y.kids.length : Int)) := by omega
            rw [List.take_of_length_le (by omega)] at hany
            have hrf : r = false := HYR.out.symm.trans hany
            subst hrf
            have KR := hide (HB.out.trans (HI.out.mono HB.out.size))
            clear c0
            go_wp2
            go_ret
            exact ⟨rfl, KR.out⟩
      | nilf _ hk =>
        rw [ndB_eq, if_neg (by omega), if_neg (by omega), if_neg (by omega)] at hyr
        subst hyr
        have nW := eNoIsF
        have uW := eUnwrapF
        have mU := eMethodUnwrap
        have hty := run_eql_iface_types (P := Tryd.prog) 41 95 (.pointer none) (.pointer (some (a i))) Tryd.underlying27 (by decide) wr
        clear hyn hk
        go_wp2
        go_ret
        exact ⟨rfl, HB.out⟩
      | claim _ g hk hg =>
        rw [ndB_eq, if_pos (Or.inr hk)] at hyr
        have nW := bClaimHasIs
        have uW := bClaimNoUn
        have vW := bClaimNoUs
        have mU := bClaimM
        have hty := run_eql_iface_types (P := Tryd.prog) 73 95 (.pointer (some ⟨g, 0, none⟩)) (.pointer (some (a i))) Tryd.underlying27 (by decide) wr
        have HC := hide (claimIs_any hi HSr.out hg)
        rw [hyr] at HC
        clear hyr hyn hk hg
        go_wp2_with fail
        refine HC.out.mono ?_
        rintro e w2 ⟨rfl, hb2⟩
        have HB2 := hide (HB.out.trans (hb2.mono HB.out.size))
        clear hb2 HC
        cases r with
        | true =>
          go_wp2
          go_ret
          exact ⟨rfl, HB2.out⟩
        | false =>
          go_wp2
          go_ret
          exact ⟨rfl, HB2.out⟩

end Go.Proofs.YtbkgphglojjllaaDoor
