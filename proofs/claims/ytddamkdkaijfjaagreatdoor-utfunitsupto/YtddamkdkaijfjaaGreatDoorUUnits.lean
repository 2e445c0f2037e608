/- utf: isText, split, Units -/
import Derived.Maps.AppendAt
import Derived.Test.YtddamkdkaijfjaaGreatDoorUAll
namespace Go.Proofs.YtddamkdkaijfjaaGreatDoor
open Go.RowKit Go.Shelf
set_option linter.unusedVariables false
attribute [local go_sem] Oper.semAt_some

theorem ucell_two_new (w : World) (x y : Value) (t : TypeId) : ∀ j u, [x, y][j]? = some u → (w.alloc (.cells #[x, y] t)).cell? ((⟨w.heap.size, 0, none⟩ : Addr).add j) = some u := by
  intro j u hj
  match j, hj with
  | 0, hj => simp at hj; subst hj; simp [Addr.add]
  | 1, hj => simp at hj; subst hj; simp [Addr.add]

theorem isText_any {s : ByteArray} {es ps t : List Int} {w : World} (hb : uByt es) (hs : s = strOfNums es) (hl : es.length ≤ 9223372036854775807) (hS : USplit es ps t) :
    Calls Tryz.prog 25 #[.string s] w fun e w' => e = .returned (.bool t.isEmpty) ∧ Below w.heap.size w w' := by
  have HB := hide (fun w => bad_any (w := w) hb hs hl hS)
  have hsz : s.size = (uFlat ps).length + t.length := by rw [hs, strOfNums_size, hS.eq, List.length_append]
  have hsl : s.size ≤ 9223372036854775807 := by rw [hs, strOfNums_size]; exact hl
  obtain ⟨m, hm⟩ : ∃ m, (uFlat ps).length = m := ⟨_, rfl⟩
  rw [hm] at hsz HB
  have hte : t.isEmpty = ((m : Int) == (s.size : Int)) := by
    rw [Bool.eq_iff_iff]
    rw [List.isEmpty_iff, beq_iff_eq, ← List.length_eq_zero_iff, hsz]
    omega
  have HT := hide hte
  clear hb hs hl hS hm hsz hte
  go_enter Tryz.func25, Tryz.ntmps25
  go_wp2_with (go_at_call 78; refine (HB.out _).mono ?_; rintro e w' ⟨rfl, hB⟩)
  go_ret
  exact ⟨ret_bool HT.out.symm, hB⟩

theorem split_any {p : Int} {w : World} (h0 : 65536 ≤ p) (h1 : p ≤ 1114111) : Calls Tryz.prog 81 #[.int .i32 p] w fun e w' => e = .returned (.tuple #[.int .i32 (55296 + (p - 65536) / 1024), .int .i32 (56320 + (p - 65536) % 1024)]) ∧ w' = w := by
  go_enter Tryz.func81, Tryz.ntmps81
  go_wp2
  go_ret2
  exact ⟨rfl, rfl⟩

/-- the code units of what has come -/
def uUs (pre : List UPair) : List Int := pre.flatMap fun x => uU x.1.2
theorem uUs_snoc (pre : List UPair) (x : UPair) : uUs (pre ++ [x]) = uUs pre ++ uU x.1.2 := by simp [uUs]
theorem uU_len (p : Int) : (uU p).length ≤ 2 := by unfold uU; split <;> simp
theorem uUs_len (pre : List UPair) : (uUs pre).length ≤ 2 * pre.length := by
  unfold uUs
  induction pre with
  | nil => simp
  | cons x xs ih => rw [List.flatMap_cons, List.length_append, List.length_cons]; have := uU_len x.1.2; omega
theorem uUs_all {ys : List UPair} {ps : List Int} (h : ys.map Subtype.val = uPl 0 ps) : uUs ys = ps.flatMap uU := by
  have : ps = ys.map (fun x => x.1.2) := by
    rw [← uPl_snd 0 ps, ← h, List.map_map]; rfl
  rw [this, uUs, List.flatMap_map]

theorem Tryz.infoU16 : (Tryz.prog.info? 52).map (fun i => (i.zero, i.size, i.bytes)) = some (some (.int .u16 0), 1, 2) := by kernel_rfl

set_option maxRecDepth 100000 in
set_option maxHeartbeats 4000000 in
theorem units_text {s : ByteArray} {es ps : List Int} {w : World} (hb : uByt es) (hs : s = strOfNums es) (hl : es.length ≤ 17592186044416) (hS : USplit es ps []) :
    Calls Tryz.prog 16 #[.string s] w fun e w' => ∃ v, e = .returned (.tuple #[v, .bool true]) ∧ w'.ownsRow w.heap.size 52 1 v (ps.flatMap uU).length ((ps.flatMap uU).map (Value.int .u16)) ∧ Below w.heap.size w w' := by
  have hpl : ps.length ≤ 17592186044416 := by have := uFlat_len ps; rw [hS.eq, List.append_nil] at hl; omega
  have HS := hide hs
  have hst : ∀ (W0 : World) (Bn n₀ : Nat), Boxed W0 Bn 9 (.string s) → SeqStopsK Fence.wide 2 Tryz.prog 90 #[.pointer (some ⟨Bn, 0, none⟩)] uEncs (UKp Bn n₀) (fun ys => ys.map Subtype.val = uPl 0 ps) (fun pre => pre.map Subtype.val <+: uPl 0 ps) ps.length W0 := fun _ _ _ h3 => all_stops (by omega) hb hs (by omega) hS h3
  have HST := hide hst
  have HIT := hide (fun w => isText_any (w := w) hb hs (by omega) hS)
  clear hs hst hS hb
  obtain ⟨i0, hi, hz0, hz1, hz2⟩ := info_parts Tryz.infoU16
  refine (callsIn_wide (n := 3)).1 ?_
  refine callsIn_of_wp_marks Tryz.func16 rfl trivial ?_ rfl
  simp only [Tryz.ntmps16, List.size_toArray, List.length_cons, List.length_nil, Nat.reduceAdd, Nat.reduceSub, Array.replicate_succ, Array.replicate_zero, List.push_toArray, List.append_toArray, List.nil_append, List.cons_append]
  gi_wp2_with fail
  refine ⟨trivial, (callsIn_wide.2 (HIT.out _)).mono ?_⟩
  rintro e w0 ⟨rfl, hB⟩
  rw [show ([] : List Int).isEmpty = true from rfl]
  gi_wp2_with fail
  refine ⟨trivial, (callsIn_wide.2 all_any).mono ?_⟩
  rintro e w' ⟨rfl, rfl⟩
  gi_wp2_with fail
  have bO := Boxed.new w0 48 (.slice none 0 0)
  have bN := Boxed.new (w0.alloc (.cells #[.slice none 0 0] 48)) 9 (.string s)
  rw [World.size_alloc] at bN
  have hws := hB.size
  have hB0 : Below w.heap.size w ((w0.alloc (.cells #[.slice none 0 0] 48)).alloc (.cells #[.string s] 9)) := (hB.alloc (by omega) _).alloc (by simp; omega) _
  refine wpIn_rangeFunc_ownG rfl (by omega) (gf := 90) (lb := #[.pointer (some ⟨w0.heap.size + 1, 0, none⟩)]) (by simp [go_sem]) trivial (enters_of Tryz.func90 (by kernel_rfl) rfl)
    (HST.out _ _ w.heap.size bN) ukp_t (ukp_b (by simp; omega) (by simp)) (Below.refl _ _) (fun _ => rfl)
    (fun pre W => (∃ v, Boxed W w0.heap.size 48 v ∧ W.ownsRow w.heap.size 52 1 v (uUs pre).length ((uUs pre).map (Value.int .u16)) ∧ True) ∧ Below w.heap.size w W)
    (fun _ _ _ => False)
    (OwnFrom.and (Own.from (holdsRow_own w.heap.size w0.heap.size 48 52 1 (fun pre => (uUs pre).length) (fun pre => (uUs pre).map (Value.int .u16)) (fun pre v => True)) _) (ownFrom_below (Nat.le_refl _) (by simp; omega)))
    (fun _ _ _ _ _ hs _ _ => hs)
    ⟨⟨_, bO.alloc _, World.ownsRow_nil _ _ _ _, trivial⟩, hB0⟩
    (fun x => { tmps := #[.string s, undef, .slice none 0 0, .bool false, .pointer (some ⟨w0.heap.size, 0, none⟩), undef, .int .i32 x.1.2, undef, undef, .string s, .bool true, .bool false, .string s, .func (.func 90) #[] #[.pointer (some ⟨w0.heap.size + 1, 0, none⟩)], .int .i64 x.1.1, .int .i32 x.1.2, undef, undef, undef, undef, undef, undef, undef, undef, undef, undef, undef, undef, undef, undef, undef, undef, undef, undef, undef, undef], defers := [] }) ?assign ?body ?done ?stop
  case assign =>
    intro l x W K hK
    gi_wp2
    exact hK
  case body =>
    rintro l pre x W ⟨⟨v, hv, hrow, -⟩, hBW⟩ hlt
    have hc := hv.cell
    have hul := uUs_len pre
    have hsn := hide (uUs_snoc pre x)
    obtain ⟨⟨p1, p⟩, hx1, hx2, hx3⟩ := x
    simp only at hx1 hx2 hx3 hsn ⊢
    have hpt := uPt_iff.1 hx1
    by_cases hp : p < 65536
    · have hu : uU p = [p] := by unfold uU; rw [if_pos hp]
      have hw : IntKind.u16.wrap p = p := by simp [IntKind.wrap, IntKind.bits, IntKind.signed]; omega
      rw [hu] at hsn
      clear hu
      gi_wp2_with (gi_at_builtin; refine wpListIn_append_own _ rfl _ _ 48 rfl w.heap.size 52 i0 (.int .u16 0) 1 2 Tryz.underlying48 hi hz0 hz1 hz2 rfl (by decide) _ _ _ rfl (hrow.alloc _) ⟨W.heap.size, 0, none⟩ 1 1 [.int .u16 p] rfl rfl (cell_one_new _ _ _) (by simp [Value.oneCell']) (by unfold maxLen; omega) (by omega) (by have := hBW.size; simp; omega) ?_; intro v' w1 hown' hgrow _; obtain ⟨g', cap', rfl⟩ := ownsRow_succ hown'; obtain ⟨hv1, hv2, hr2, hk2, hb2⟩ := hv.appended (by decide) hrow hBW.size hws hown' hgrow; have hc1 := hv1.cell; have hf1 := hv1.frozen)
      refine ⟨hk2.from _, ⟨hb2, fun u h => ((h.alloc _).kept hgrow (h.not_row (by decide) hrow)).other (by omega) _⟩, ⟨_, hv2, ?_, trivial⟩, hBW.trans hb2⟩
      rw [hsn.out]
      simpa using hr2
    · have hu : uU p = [55296 + (p - 65536) / 1024, 56320 + (p - 65536) % 1024] := by unfold uU; rw [if_neg hp]
      rw [hu] at hsn
      clear hu
      obtain ⟨a, ha⟩ : ∃ a, 55296 + (p - 65536) / 1024 = a := ⟨_, rfl⟩
      obtain ⟨b, hb⟩ : ∃ b, 56320 + (p - 65536) % 1024 = b := ⟨_, rfl⟩
      have HSP := hide (fun w => split_any (w := w) (p := p) (by omega) (by omega))
      rw [ha, hb] at hsn HSP
      have hwa : IntKind.u16.wrap a = a := by simp [IntKind.wrap, IntKind.bits, IntKind.signed]; omega
      have hwb : IntKind.u16.wrap b = b := by simp [IntKind.wrap, IntKind.bits, IntKind.signed]; omega
      clear ha hb
      gi_wp2_with fail
      refine ⟨trivial, (CallsIn.inRound l (callsIn_wide.2 (HSP.out _))).mono ?_⟩
      rintro e w' ⟨rfl, rfl⟩
      gi_wp2_with (gi_at_builtin; refine wpListIn_append_own _ rfl _ _ 48 rfl w.heap.size 52 i0 (.int .u16 0) 1 2 Tryz.underlying48 hi hz0 hz1 hz2 rfl (by decide) _ _ _ rfl (hrow.alloc _) ⟨w'.heap.size, 0, none⟩ 2 2 [.int .u16 a, .int .u16 b] rfl rfl (ucell_two_new _ _ _ _) (by simp [Value.oneCell']) (by unfold maxLen; omega) (by omega) (by have := hBW.size; simp; omega) ?_; intro v' w1 hown' hgrow _; obtain ⟨g', cap', rfl⟩ := ownsRow_succ hown'; obtain ⟨hv1, hv2, hr2, hk2, hb2⟩ := hv.appended (by decide) hrow hBW.size hws hown' hgrow; have hc1 := hv1.cell; have hf1 := hv1.frozen)
      refine ⟨hk2.from _, ⟨hb2, fun u h => ((h.alloc _).kept hgrow (h.not_row (by decide) hrow)).other (by omega) _⟩, ⟨_, hv2, ?_, trivial⟩, hBW.trans hb2⟩
      rw [hsn.out]
      simpa using hr2
  case done =>
    rintro D ys W hD hys ⟨⟨v, hv, hrow, -⟩, hBW⟩ hK
    have hc := hv.cell
    rw [uUs_all hys] at hrow
    gi_wp2
    refine ⟨by simp, .inl ⟨_, _, rfl, run_takeDeferred hK, ?_⟩⟩
    exact ⟨_, results_tmp2 rfl _ _ _, v, rfl, ownsRow_putObj hrow _ hK rfl, hBW.trans (belowK_b (w := w) (Nat.le_refl _) W D _ _ (by simp at hD; omega) hK rfl rfl)⟩
  case stop =>
    rintro D c pre W _ _ h _
    exact h.elim

end Go.Proofs.YtddamkdkaijfjaaGreatDoor
