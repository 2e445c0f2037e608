/- errors.as of errors that are built of nodes -/
import Derived.Test.YtbkgphglojjllaaDoorFAsM
namespace Go.Proofs.YtbkgphglojjllaaDoor
open Go.RowKit Go.Extern.Stop Go.Stop Go.Extern
set_option linter.unusedVariables false

theorem dStrType (v : Value) (w : World) : (ReflectliteType.typeOf #[.iface 95 v]).run Tryd.prog w = .ok (.iface 103 (.agg #[.pointer (some ⟨16, 95, none⟩)])) w := by kernel_rfl
theorem dStrAssign (w : World) : (ReflectliteType.relation "AssignableTo" ReflectliteType.assignableTo #[.agg #[.pointer (some ⟨16, 95, none⟩)], .iface 103 (.agg #[.pointer (some ⟨16, 41, none⟩)])]).run Tryd.prog w = .ok (.bool false) w := by kernel_rfl
theorem dStrNoAs (v : Value) (xT : TypeId) (w : World) : (Instr.typeAssert (.iface 95 v) xT 107 true).run Tryd.prog w = .ok (.tuple #[.nilIface, .bool false]) w := run_typeAssert_lacksB Tryd.underlying107 (by kernel_rfl) (by kernel_rfl) v xT w
theorem dClaimType (v : Value) (w : World) : (ReflectliteType.typeOf #[.iface 73 v]).run Tryd.prog w = .ok (.iface 103 (.agg #[.pointer (some ⟨16, 73, none⟩)])) w := by kernel_rfl
theorem dClaimAssign (w : World) : (ReflectliteType.relation "AssignableTo" ReflectliteType.assignableTo #[.agg #[.pointer (some ⟨16, 73, none⟩)], .iface 103 (.agg #[.pointer (some ⟨16, 41, none⟩)])]).run Tryd.prog w = .ok (.bool false) w := by kernel_rfl
theorem dClaimNoAs (v : Value) (xT : TypeId) (w : World) : (Instr.typeAssert (.iface 73 v) xT 107 true).run Tryd.prog w = .ok (.tuple #[.nilIface, .bool false]) w := run_typeAssert_lacksB Tryd.underlying107 (by kernel_rfl) (by kernel_rfl) v xT w
theorem dOneType (v : Value) (w : World) : (ReflectliteType.typeOf #[.iface 67 v]).run Tryd.prog w = .ok (.iface 103 (.agg #[.pointer (some ⟨16, 67, none⟩)])) w := by kernel_rfl
theorem dOneAssign (w : World) : (ReflectliteType.relation "AssignableTo" ReflectliteType.assignableTo #[.agg #[.pointer (some ⟨16, 67, none⟩)], .iface 103 (.agg #[.pointer (some ⟨16, 41, none⟩)])]).run Tryd.prog w = .ok (.bool false) w := by kernel_rfl
theorem dOneNoAs (v : Value) (xT : TypeId) (w : World) : (Instr.typeAssert (.iface 67 v) xT 107 true).run Tryd.prog w = .ok (.tuple #[.nilIface, .bool false]) w := run_typeAssert_lacksB Tryd.underlying107 (by kernel_rfl) (by kernel_rfl) v xT w
theorem dManyType (v : Value) (w : World) : (ReflectliteType.typeOf #[.iface 70 v]).run Tryd.prog w = .ok (.iface 103 (.agg #[.pointer (some ⟨16, 70, none⟩)])) w := by kernel_rfl
theorem dManyAssign (w : World) : (ReflectliteType.relation "AssignableTo" ReflectliteType.assignableTo #[.agg #[.pointer (some ⟨16, 70, none⟩)], .iface 103 (.agg #[.pointer (some ⟨16, 41, none⟩)])]).run Tryd.prog w = .ok (.bool false) w := by kernel_rfl
theorem dManyNoAs (v : Value) (xT : TypeId) (w : World) : (Instr.typeAssert (.iface 70 v) xT 107 true).run Tryd.prog w = .ok (.tuple #[.nilIface, .bool false]) w := run_typeAssert_lacksB Tryd.underlying107 (by kernel_rfl) (by kernel_rfl) v xT w
theorem dUnpack (p : Option Addr) (w : World) : (ReflectliteValue.unpack (.iface 41 (.pointer p))).run Tryd.prog w
    = .ok (.agg #[.pointer (some ⟨16, 41, none⟩), .pointer (some ⟨w.heap.size, 0, none⟩), .int .u64 150]) (w.alloc (.cells #[.pointer p] 41)) := by kernel_rfl
theorem dSet (ta b : Addr) (p : Option Addr) (old : Value) (W : World) (hb : W.cell? b = some (.pointer p)) (ht : W.cell? ta = some old) (hf : W.frozen? ta = false) :
    (ReflectliteValue.set #[.agg #[.pointer (some ⟨16, 41, none⟩), .pointer (some ta), .int .u64 406], .agg #[.pointer (some ⟨16, 41, none⟩), .pointer (some b), .int .u64 150]]).run Tryd.prog W
      = .ok (.tuple #[]) (W.setCell ta (.pointer p)) := by
  show (Sem.run Tryd.prog (bind (ReflectliteValue.parts _) _) W) = _
  rw [Sem.run_bind]
  erw [aParts1a]
  simp only [Result.andThen]
  rw [Sem.run_bind]
  erw [aParts1]
  simp only [Result.andThen]
  simp [ReflectliteValue.flagAddr, loadVar, isAgg, underlying, Tryd.underlying41, hb, Result.andThen, aDirect, storeVar, Value.cells, storeCells, Addr.add]
  rw [run_store Tryd.prog W ta _ _ (by rfl)]
  simp [ht, hf]
/-- what errors.as does -/
def AsP (w : World) (t : Addr) (r : Option (Option Addr)) (e : Ending) (w' : World) : Prop :=
  (r = none ∧ e = .returned (.bool false) ∧ Below w.heap.size w w') ∨ (∃ p w1, r = some p ∧ e = .returned (.bool true) ∧ Below w.heap.size w w1 ∧ w' = w1.setCell t (.pointer p))
/-- the target of errors.As, and what holds it -/
structure Tgt (w : World) (t : Addr) (q : Nat) : Prop where
  hold : w.cell? ⟨q, 0, none⟩ = some (.pointer (some t))
  qlt : q < w.heap.size
  cell : w.cell? t = some (.pointer none)
  free : w.frozen? t = false
  tlt : t.block < w.heap.size
theorem Tgt.below {w w' : World} {t : Addr} {q : Nat} (h : Tgt w t q) (hb : Below w.heap.size w w') : Tgt w' t q :=
  ⟨(hb.cell (p := ⟨q, 0, none⟩) h.qlt).trans h.hold, Nat.lt_of_lt_of_le h.qlt hb.size, (hb.cell h.tlt).trans h.cell, by
    have := h.free
    simp only [World.frozen?] at this ⊢
    rw [hb.block _ h.tlt]; exact this, Nat.lt_of_lt_of_le h.tlt hb.size⟩
set_option maxHeartbeats 8000000 in
set_option maxRecDepth 100000 in
theorem as_all : ∀ (N : Nat) (x : Nd), SizeOf.sizeOf x ≤ N → ∀ (w : World) (u : TypeId) (pv : Value) (r : Option (Option Addr)) (t : Addr) (q : Nat), FdR w (.iface u pv) x r → Tgt w t q →
    Calls Tryd.prog 46 #[.iface u pv, .iface 43 (.pointer (some t)), .agg #[.pointer (some ⟨16, 43, none⟩), .pointer (some ⟨q, 0, none⟩), .int .u64 150], .iface 103 (.agg #[.pointer (some ⟨16, 41, none⟩)])] w (AsP w t r) := by
  intro N
  induction N with
  | zero => intro x hx; have := sz_pos x; omega
  | succ N ih =>
    intro x hx w u pv r t q hF hT
    have h10 := @run_callFunc_extern Tryd.prog 49 _ ReflectliteType.typeOf Tryd.func49 (by kernel_rfl) (by kernel_rfl) (by kernel_rfl) (by kernel_rfl)
    have h35 := @run_callFunc_extern Tryd.prog 107 _ (ReflectliteType.relation "AssignableTo" ReflectliteType.assignableTo) Tryd.func107 (by kernel_rfl) (by kernel_rfl) (by kernel_rfl) (by kernel_rfl)
    have mA := aMethodAssignableTo
    have K0 := hide ((Below.refl w.heap.size w).alloc (Nat.le_refl _) (.cells #[.pointer (some ⟨16, 43, none⟩), .pointer (some ⟨q, 0, none⟩), .int .u64 150] 86))
    have HN := hide (heap_alloc_new w (.cells #[.pointer (some ⟨16, 43, none⟩), .pointer (some ⟨q, 0, none⟩), .int .u64 150] 86))
    have HZ := hide (show w.heap.size < (w.alloc (.cells #[.pointer (some ⟨16, 43, none⟩), .pointer (some ⟨q, 0, none⟩), .int .u64 150] 86)).heap.size from by simp)
    have HT := hide (hT.below K0.out)
    have HF := hide (hF.far K0.out)
    have IH := hide ih
    have HX := hide hx
    clear hF hT ih hx
    go_enter Tryd.func46, Tryd.ntmps46
    go_wp2
    generalize w.alloc (.cells #[.pointer (some ⟨16, 43, none⟩), .pointer (some ⟨q, 0, none⟩), .int .u64 150] 86) = W at *
    go_loopg [0] (SizeOf.sizeOf x) (fun gm er wr => ∃ (y : Nd) (u2 : TypeId) (p2 : Value), gm = SizeOf.sizeOf y ∧ SizeOf.sizeOf y ≤ N + 1 ∧ er = .iface u2 p2 ∧ Hid (FdR wr (.iface u2 p2) y r) ∧ Hid (Below W.heap.size W wr))
    case atStart => exact ⟨x, u, pv, rfl, HX.out, rfl, HF, hide (Below.refl _ _)⟩
    case round =>
      obtain ⟨y, u2, p2, rfl, hys, rfl, HY, HB⟩ := hrel
      have KR := hide (K0.out.trans (HB.out.mono K0.out.size))
      have hR := HY.out
      cases hR with
      | str _ p =>
        have tO := dStrType
        have a25 := dStrAssign
        have nA := dStrNoAs
        have uE := eNoUnwrapE
        have vE := eNoUnwrapsE
        go_wp2
        go_ret
        exact Or.inl ⟨rfl, rfl, KR.out⟩
      | claim _ p =>
        have tO := dClaimType
        have a25 := dClaimAssign
        have nA := dClaimNoAs
        have uE := bClaimNoUn
        have vE := bClaimNoUs
        go_wp2
        go_ret
        exact Or.inl ⟨rfl, rfl, KR.out⟩
      | flt _ p =>
        have tO := aTypeOf
        have a25 := aAssignable
        have h6 := @run_callFunc_extern Tryd.prog 43 _ (fun args => ReflectliteValue.unpack (args.getD 0 (.tuple #[]))) Tryd.func43 (by kernel_rfl) (by kernel_rfl) (by kernel_rfl) (by kernel_rfl)
        have h11 := @run_callFunc_extern Tryd.prog 53 _ (ReflectliteValue.method (ReflectliteValue.valueError "reflectlite.Value.Elem" 0) ReflectliteValue.elem) Tryd.func53 (by kernel_rfl) (by kernel_rfl) (by kernel_rfl) (by kernel_rfl)
        have h12 := @run_callFunc_extern Tryd.prog 54 _ ReflectliteValue.set Tryd.func54 (by kernel_rfl) (by kernel_rfl) (by kernel_rfl) (by kernel_rfl)
        have TR := HT.out.below HB.out
        have hbx := HN.out
        rw [← HB.out.block _ HZ.out] at hbx
        have c0 : wr.cell? ⟨w.heap.size, 0, none⟩ = some (.pointer (some ⟨16, 43, none⟩)) := (Lib.cell_of_heap hbx 0).trans rfl
        have c1 : wr.cell? ⟨w.heap.size, 1, none⟩ = some (.pointer (some ⟨q, 0, none⟩)) := (Lib.cell_of_heap hbx 1).trans rfl
        have c2 : wr.cell? ⟨w.heap.size, 2, none⟩ = some (.int .u64 150) := (Lib.cell_of_heap hbx 2).trans rfl
        have v25 := dUnpack
        have el := aElemV ⟨q, 0, none⟩ t wr TR.hold
        have bz := bel_alloc13 wr (.cells #[.pointer p] 41)
        have TA := TR.below bz
        have sn := dSet t ⟨wr.heap.size, 0, none⟩ p (.pointer none) (wr.alloc (.cells #[.pointer p] 41)) ((Lib.cell_of_heap (heap_alloc_new wr _) 0).trans rfl) TA.cell TA.free
        have KZ := hide (KR.out.alloc KR.out.size (.cells #[.pointer p] 41))
        clear hbx TR TA bz
        go_wp2
        go_ret
        exact Or.inr ⟨p, _, rfl, rfl, KZ.out, rfl⟩
      | wraps _ g e _ hg h0 h1 =>
        have tO := dOneType
        have a25 := dOneAssign
        have nA := dOneNoAs
        have uW := bOneHasUn
        have mU := bOneM
        have c0 : wr.cell? ⟨g, 0, none⟩ = some e := by rw [Lib.cell_of_heap hg]; rfl
        rcases Nat.eq_zero_or_pos y.kids.length with hz | hz
        · obtain ⟨e1, e2⟩ := h0 (List.eq_nil_of_length_eq_zero hz)
          rw [e1] at c0
          have E2 := hide e2
          clear hg h0 h1 hz e1 e2
          go_wp2
          go_ret
          exact Or.inl ⟨E2.out, rfl, KR.out⟩
        · have hkid := h1 hz
          have hlt := Nd.kid_lt hz
          obtain ⟨z, hz2⟩ : ∃ z, y.kids[0] = z := ⟨_, rfl⟩
          rw [hz2] at hkid hlt
          clear hg h0 h1 hz hz2
          rcases hkid.iface with ⟨rfl, hr0⟩ | ⟨u3, p3, rfl⟩
          · have E2 := hide hr0
            clear hkid hr0
            go_wp2
            go_ret
            exact Or.inl ⟨E2.out, rfl, KR.out⟩
          · have HKID := hide hkid
            clear hkid
            go_wp2
            go_roundg (SizeOf.sizeOf z)
            case measure => omega
            case rel => exact ⟨z, u3, p3, rfl, by omega, rfl, HKID, HB⟩
      | many _ g ao cap vs rs hg hl hx h1 =>
        have tO := dManyType
        have a25 := dManyAssign
        have nA := dManyNoAs
        have uW := bManyNoUn
        have vW := bManyHasUs
        have mU := bManyM
        have c0 : wr.cell? ⟨g, 0, none⟩ = some (.slice ao y.kids.length cap) := by rw [Lib.cell_of_heap hg]; rfl
        have H1 := hide h1
        have HXX := hide hx
        have HLT := hide (fun j (h : j < y.kids.length) => Nd.kid_lt h)
        clear hg hx h1
        go_wp2_with fail
        refine (manyUn_any c0).mono ?_
        rintro e w9 ⟨rfl, rfl⟩
        obtain ⟨Wb, rfl⟩ : ∃ Wb, Wb = w9 := ⟨_, rfl⟩
        clear c0
        go_wp2
        go_loopw [14, 50] (fun q14 qq wi => ∃ (j : Nat), qq = .int .i64 j ∧ j ≤ y.kids.length ∧ fs rs j = none ∧ Hid (Below Wb.heap.size Wb wi)) (fun _ qq _ => y.kids.length - (intOf qq).toNat)
        case atStart => exact ⟨0, rfl, by omega, rfl, hide (Below.refl _ _)⟩
        case round =>
          obtain ⟨j, rfl, hj2, hnone, HI⟩ := hrel
          have KI := hide (KR.out.trans (HI.out.mono KR.out.size))
          have HBI := hide (HB.out.trans (HI.out.mono HB.out.size))
          by_cases hjl : j < y.kids.length
          · have q1 : (j : Int) < (y.kids.length : Int) := by omega
            have q0 : (0 : Int) ≤ (j : Int) := by omega
            obtain ⟨b, rfl, hbl, hcell⟩ := HXX.out (by omega)
            have cj := (HI.out.cell (p := ⟨b, j, none⟩) hbl).trans (hcell j hjl)
            have hkid := (H1.out j hjl).far HI.out
            have hlt := HLT.out j hjl
            have w2' : IntKind.i64.wrap ((j : Int) + 1) = (j : Int) + 1 := by rw [IntKind.wrap_i64]; omega
            generalize y.kids[j] = z at *
            clear hcell hbl
            obtain ⟨vj, hvj⟩ : ∃ vj, vs j = vj := ⟨_, rfl⟩
            rw [hvj] at cj hkid
            rcases hkid.iface with ⟨rfl, hr0⟩ | ⟨u3, p3, rfl⟩
            · have HM := hide (fs_miss hnone hr0)
              clear hkid hr0 hvj
              go_wp2
              go_roundw
              case rel => exact ⟨j + 1, by simp, by omega, HM.out, HI⟩
              case measure => simp [intOf]; omega
            · have TR := HT.out.below HBI.out
              have HC := hide (IH.out z (by omega) wr u3 p3 (rs j) t q hkid TR)
              have hbx := HN.out
              rw [← HBI.out.block _ HZ.out] at hbx
              have c0 : wr.cell? ⟨w.heap.size, 0, none⟩ = some (.pointer (some ⟨16, 43, none⟩)) := (Lib.cell_of_heap hbx 0).trans rfl
              have c1 : wr.cell? ⟨w.heap.size, 1, none⟩ = some (.pointer (some ⟨q, 0, none⟩)) := (Lib.cell_of_heap hbx 1).trans rfl
              have c2 : wr.cell? ⟨w.heap.size, 2, none⟩ = some (.int .u64 150) := (Lib.cell_of_heap hbx 2).trans rfl
              clear hkid hvj TR hbx
              go_wp2_with fail
              refine HC.out.mono ?_
              rintro e w2 hp
              rcases hp with ⟨hr0, rfl, hb2⟩ | ⟨p, w3, hr0, rfl, hb2, rfl⟩
              · have HM := hide (fs_miss hnone hr0)
                have HI2 := hide (HI.out.trans (hb2.mono HI.out.size))
                clear hb2 HC hr0 cj c0 c1 c2
                go_wp2
                go_roundw
                case rel => exact ⟨j + 1, by simp, by omega, HM.out, HI2⟩
                case measure => simp [intOf]; omega
              · have HM := hide (fs_hit hnone hr0 hjl)
                have K3 := hide (KI.out.trans (hb2.mono KI.out.size))
                clear hb2 HC hr0 cj c0 c1 c2
                go_wp2
                go_ret
                exact Or.inr ⟨p, _, HM.out, rfl, K3.out, rfl⟩
          · have q1 : ¬ ((j : Int) < (y.kids.length : Int)) := by omega
            have hjj : j = y.kids.length := by omega
            rw [hjj] at hnone
            have HM := hide hnone
            clear hnone
            go_wp2
            go_ret
            exact Or.inl ⟨HM.out, rfl, KI.out⟩

end Go.Proofs.YtbkgphglojjllaaDoor
