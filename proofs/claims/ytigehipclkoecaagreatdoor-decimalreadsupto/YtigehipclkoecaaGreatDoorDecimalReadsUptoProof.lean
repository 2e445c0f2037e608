/- DecimalReads: the row's step, and the card -/
import Derived.Test.YtigehipclkoecaaGreatDoorDRdM
import Derived.Test.YtigehipclkoecaaGreatDoorDBulk
namespace Go.Proofs.YtigehipclkoecaaGreatDoor.decimalReads
open Go.ChangeShapes Go.WideShapes Go.ChangeAt Go.RowKit Go.Deep
set_option linter.unusedVariables false

theorem bulk_digits {H : Type} {d y z : DataW H} {bytes : List UInt8} {n : Nat} (hd : d = .agg [y, .lit (.string bytes), z]) (h : Rows.uptoBulk d ≤ n) : bytes.length ≤ n := by
  subst hd
  simp only [Rows.uptoBulk, Rows.uptoBulkAll] at h
  omega

set_option maxRecDepth 100000 in
theorem open_digits_upto {H : Type} {enc : TypeId × Value → H} {W : World} {base b0 : Nat} {held : Bool} {v : Value} {d : DataW H} {p : List MemPlace} (hv : Value.okWide Tryz.prog W .any base 23 v)
    (h : ∃ n, DataW.trod enc Tryz.prog W b0 (fun _ => true) held n 23 v.cells.toList = some (d, p))
    (hz : ∀ y bytes z, d = .agg [y, .lit (.string bytes), z] → bytes.length ≤ reachBytes) (hbk : Rows.uptoBulk d ≤ 1048576) :
    ∃ ng s P, ∃ es : List Int, v = .agg #[.bool ng, .string s, .int .i64 P] ∧ Byt es ∧ s = strOfNums es ∧ es.length ≤ 1048576 ∧ -9223372036854775808 ≤ P ∧ P ≤ 9223372036854775807 := by
  obtain ⟨cs, rfl, hcz⟩ := okWide_struct Tryz.underlying23 hv
  rw [cells_dig] at hcz
  obtain ⟨c0, c1, c2, rfl⟩ : ∃ c0 c1 c2, cs = #[c0, c1, c2] := by
    obtain ⟨l⟩ := cs
    rcases l with _ | ⟨a, _ | ⟨b, _ | ⟨c, _ | ⟨e, l⟩⟩⟩⟩
    · simp at hcz
    · simp at hcz
    · simp at hcz
    · exact ⟨a, b, c, rfl⟩
    · simp at hcz
  obtain ⟨fuel, hf⟩ := h
  obtain ⟨y0, y1, y2, m, hx, hl, hy0, hy1, hy2⟩ := trod_struct3 Tryz.underlying23 hf
  have hy0' : DataW.trod enc Tryz.prog W b0 (fun _ => true) held m 4 [c0] = some y0 := by simpa [Value.cells, cells_dbool] using hy0
  have hy1' : DataW.trod enc Tryz.prog W b0 (fun _ => true) held m 9 [c1] = some y1 := by simpa [Value.cells, cells_dstr] using hy1
  have hy2' : DataW.trod enc Tryz.prog W b0 (fun _ => true) held m 3 [c2] = some y2 := by simpa [Value.cells, cells_dint] using hy2
  obtain ⟨ng, hc0, hb⟩ := DataW.trod_bool Tryz.underlying4 hy0'
  obtain ⟨s, hc1, hs, hsm⟩ := DataW.trod_string Tryz.underlying9 hy1'
  obtain ⟨P, hc2, hp, hw⟩ := DataW.trod_int Tryz.underlying3 hy2'
  simp at hc0 hc1 hc2
  subst hc0 hc1 hc2
  have hd : d = .agg [y0.1, y1.1, y2.1] := (Prod.mk.inj hx).1
  have hlen := hz y0.1 s.data.toList y2.1 (by rw [hd, hs])
  have hr := bulk_digits (show d = .agg [y0.1, .lit (.string s.data.toList), y2.1] by rw [hd, hs]) hbk
  obtain ⟨es, e1, e2, e3⟩ := txt_of s
  simp [Lit.wf, IntKind.min, IntKind.max, IntKind.signed, IntKind.bits] at hw
  refine ⟨ng, s, P, es, rfl, e1, e3, ?_, by omega, by omega⟩
  rw [e2]
  have : s.size = s.data.toList.length := by rw [Array.length_toList]; rfl
  omega

set_option maxRecDepth 100000 in
theorem laid_met (os : Os) : laidMet Tryz.prog Rows.decimalReadsUptoRow.laid ((tabledWorld os).forCall (fun _ _ => 0) ⟨#[], #[.int .u8 0, .agg #[.bool false, .string ByteArray.empty, .int .i64 0]], []⟩).memory :=
  laidMet_of_run' 8 (by kernel_rfl) (by kernel_rfl)
set_option maxRecDepth 100000 in
theorem reads (os : Os) {H : Type} (enc : TypeId × Value → H) : ∃ places, DataW.whole enc Tryz.prog ((tabledWorld os).forCall (fun _ _ => 0) ⟨#[], #[.int .u8 0, .agg #[.bool false, .string ByteArray.empty, .int .i64 0]], []⟩).memory Tryz.f3.params.toList Rows.decimalReadsSpec.vars false (#[.int .u8 0, .agg #[.bool false, .string ByteArray.empty, .int .i64 0]] : Array Value).toList 8 = some ([.lit (.int .u8 0), .agg [.lit (.bool false), .lit (.string []), .lit (.int .i64 0)]], [], places) :=
  ⟨[], by kernel_rfl⟩

set_option maxRecDepth 100000 in
set_option maxHeartbeats 4000000 in
theorem lifted (os : Os) (started : os.Started) (H : Type) (enc : TypeId × Value → H) (F : Stop.Interp) :
    ReturnsInHanded {} Tryz.checked os 3 .any ((Rows.OpenSpec.upto Rows.decimalReadsSpec).preRow enc Tryz.prog Tryz.f3 Rows.decimalReadsUptoRow.domain false Rows.decimalReadsUptoRow.laid) (((Rows.OpenSpec.upto Rows.decimalReadsSpec).at F).post enc Tryz.prog Tryz.f3 false true false false) := by
  obtain ⟨places, hx⟩ := reads os enc
  refine returnsInHanded_of_row (C := Tryz.checked) (s := Rows.OpenSpec.upto Rows.decimalReadsSpec) own started (by kernel_rfl) Tryz.func3
    (witness_row_at (enc := enc) (C := Tryz.checked) false (tabledWorld os) #[.int .u8 0, .agg #[.bool false, .string ByteArray.empty, .int .i64 0]] rfl (by kernel_rfl) (by kernel_rfl) (by kernel_rfl)
      (OpenSpec.preRow_of_cond 8 hx (by kernel_rfl) (fun k hk => by cases hk; kernel_rfl) (by kernel_rfl) (laid_met os))) ?_
  intro W base args ds gs before hval0 hW hcnd hcond hsz0 hL _ _
  have hk : Rows.uptoSmall H (ds ++ gs) = true := hcond _ rfl
  have hval : ∀ (j : Nat) t v, Tryz.f3.params[j]? = some t → args[j]? = some v → Value.okWide Tryz.prog W .any base t v := hval0
  have hsz : (DataW.weightsEach Tryz.prog (Tryz.f3.params.toList ++ Rows.decimalReadsSpec.plain.varTypes Tryz.prog) (ds ++ gs)).all (· ≤ reachBytes) = true := hsz0
  have hW' := hW
  obtain ⟨p, q, hA0, hV, rfl, hfz, hnd⟩ := hW
  have hA : DataW.TrodAll enc Tryz.prog W 0 (fun _ => true) true Tryz.f3.params.toList args.toList ds p := hA0
  rw [Tryz.params3] at hA hval hsz
  obtain ⟨v0, vs0, d0, ds0, p0, q0, hargs, rfl, rfl, h0, r0⟩ := trodAll_cons hA
  obtain ⟨v1, vs1, d1, ds1, p1, q1, rfl, rfl, rfl, h1, r1⟩ := trodAll_cons r0
  obtain ⟨rfl, rfl, rfl⟩ := trodAll_nil r1
  obtain rfl : args = #[v0, v1] := by cases args; simp_all
  obtain ⟨rfl, rfl⟩ := trodVars_none hV
  have hbk : Rows.uptoBulkAll ([d0, d1] ++ []) ≤ 1048576 := of_decide_eq_true hk
  simp only [List.append_nil, Rows.uptoBulkAll] at hbk
  obtain ⟨a0, rfl, rfl, rfl, w0⟩ := open_int Tryz.underlying5 (hval 0 5 v0 rfl rfl) h0
  have b0 := w0
  simp [Lit.wf, IntKind.min, IntKind.max, IntKind.signed, IntKind.bits] at b0
  have k1 := h1
  have lt1 : ∀ x ∈ p1, x.block < W.heap.size := by obtain ⟨m, hm⟩ := k1; exact DataW.trod_lt m _ _ _ hm
  obtain ⟨ng1, s1, P1, es1, rfl, e11, e21, e31, e41, e51⟩ := open_digits_upto (hval 1 23 v1 rfl rfl) h1 (fun y bytes z hd => sized_digits hsz (j := 1) rfl (by rw [hd]; rfl)) (by omega)
  clear hA0 hval0 hsz0
  refine (reads_walk7 (lays_one hL) (v := a0) (by omega) (by omega) e11 e21 rfl (by omega) e41 e51).mono fun e W' ⟨he, bel⟩ => ?_
  subst he
  exact ⟨_, rfl, _, _, _, [], _, [], hW', trodAll_mk1 (shut_bool Tryz.underlying4 _), (trodAll_cons_mk (shut_int Tryz.underlying5 w0) (trodAll_cons_mk (Below.trod laidOut (by kernel_rfl) (of_decide_eq_true (by kernel_rfl)) k1 bel lt1) trodAll_mk0)), rfl, bel.frame _, fun h => by cases h⟩

theorem said : Rows.DecimalReadsUptoSaid :=
  OpenClaim.holds_of_cond 3 Tryz.f3 rfl rfl rfl rfl rfl rfl rfl ⟨rfl, rfl, rfl, rfl, rfl⟩ rfl rfl rfl rfl rfl (by kernel_rfl) Tryz.func3 (by kernel_rfl)
    (of_decide_eq_true (by kernel_rfl)) (by unfold Func.isWrapper; first | (rw [if_pos (by decide +kernel)]; kernel_rfl) | (rw [if_neg (by decide +kernel)]; exact ⟨rfl, rfl⟩))
    (fun os started H enc _ F => by rw [OpenClaim.pre_eq_preRow]; exact lifted os started H enc F)

theorem plain (f : FuncId) (fn : Func) (hf : Tryz.pinned.checked.prog.funcNamed "crucible/cruciblelaw07.DecimalReads" = some f) (hfn : Tryz.pinned.checked.prog.funcs[f]? = some fn) :
    false = Tryz.pinned.checked.prog.looks [] ∧ ∀ (j : Nat) t, fn.params[j]? = some t → Tryz.pinned.checked.prog.wantsStandIn t = false := by
  obtain rfl : f = 3 := Option.some.inj ((show Tryz.prog.funcNamed "crucible/cruciblelaw07.DecimalReads" = some 3 by kernel_rfl).symm.trans hf) |>.symm
  obtain rfl : fn = Tryz.f3 := (Option.some.inj (Tryz.func3.symm.trans hfn)).symm
  refine ⟨by kernel_rfl, fun j t ht => ?_⟩
  rw [Tryz.params3] at ht
  have hm : t ∈ [5, 23] := by simpa using Array.mem_of_getElem? ht
  have hall : ([5, 23].all fun u => !Tryz.prog.wantsStandIn u) = true := by kernel_rfl
  exact (show Tryz.prog.wantsStandIn t = false by simpa using List.all_eq_true.1 hall t hm)

end Go.Proofs.YtigehipclkoecaaGreatDoor.decimalReads
namespace Go.Proofs.YtigehipclkoecaaGreatDoor
theorem decimalReadsUptoCard_holds : Rows.DecimalReadsUptoCardSaid :=
  Claim7.holds_tied_plain_at .later [] _ _ _ _ decimalReads.said (fun _ h => by cases h) (by kernel_rfl) (fun _ h => by cases h) decimalReadsUpto_row_tie rfl ⟨rfl, rfl⟩ (by kernel_rfl) rfl decimalReads.plain (by kernel_rfl)
end Go.Proofs.YtigehipclkoecaaGreatDoor
