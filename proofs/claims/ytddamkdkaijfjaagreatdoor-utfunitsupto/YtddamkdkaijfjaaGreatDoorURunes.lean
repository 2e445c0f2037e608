/- utf: Runes; Units and Runes of no text -/
import Derived.Test.YtddamkdkaijfjaaGreatDoorUUnits
namespace Go.Proofs.YtddamkdkaijfjaaGreatDoor
open Go.RowKit Go.Shelf
set_option linter.unusedVariables false
attribute [local go_sem] Oper.semAt_some

theorem Tryz.infoI32 : (Tryz.prog.info? 21).map (fun i => (i.zero, i.size, i.bytes)) = some (some (.int .i32 0), 1, 4) := by kernel_rfl

def uRs (pre : List UPair) : List Int := pre.map fun x => x.1.2
theorem uRs_snoc (pre : List UPair) (x : UPair) : uRs (pre ++ [x]) = uRs pre ++ [x.1.2] := by simp [uRs]
theorem uRs_len (pre : List UPair) : (uRs pre).length = pre.length := by simp [uRs]
theorem uRs_all {ys : List UPair} {ps : List Int} (h : ys.map Subtype.val = uPl 0 ps) : uRs ys = ps := by
  rw [← uPl_snd 0 ps, ← h, List.map_map]; rfl

set_option maxRecDepth 100000 in
set_option maxHeartbeats 4000000 in
theorem runes_text {s : ByteArray} {es ps : List Int} {w : World} (hb : uByt es) (hs : s = strOfNums es) (hl : es.length ≤ 17592186044416) (hS : USplit es ps []) :
    Calls Tryz.prog 6 #[.string s] w fun e w' => ∃ v, e = .returned (.tuple #[v, .bool true]) ∧ w'.ownsRow w.heap.size 21 1 v ps.length (ps.map (Value.int .i32)) ∧ Below w.heap.size w w' := by
  have hpl : ps.length ≤ 17592186044416 := by have := uFlat_len ps; rw [hS.eq, List.append_nil] at hl; omega
  have hst : ∀ (W0 : World) (Bn n₀ : Nat), Boxed W0 Bn 9 (.string s) → SeqStopsK Fence.wide 2 Tryz.prog 90 #[.pointer (some ⟨Bn, 0, none⟩)] uEncs (UKp Bn n₀) (fun ys => ys.map Subtype.val = uPl 0 ps) (fun pre => pre.map Subtype.val <+: uPl 0 ps) ps.length W0 := fun _ _ _ h3 => all_stops (by omega) hb hs (by omega) hS h3
  have HST := hide hst
  have HIT := hide (fun w => isText_any (w := w) hb hs (by omega) hS)
  clear hs hst hS hb
  obtain ⟨i0, hi, hz0, hz1, hz2⟩ := info_parts Tryz.infoI32
  refine (callsIn_wide (n := 3)).1 ?_
  refine callsIn_of_wp_marks Tryz.func6 rfl trivial ?_ rfl
  simp only [Tryz.ntmps6, List.size_toArray, List.length_cons, List.length_nil, Nat.reduceAdd, Nat.reduceSub, Array.replicate_succ, Array.replicate_zero, List.push_toArray, List.append_toArray, List.nil_append, List.cons_append]
  refine wpIn_wide.2 ?_
  go_wp2_with fail
  refine (HIT.out _).mono ?_
  rintro e w0 ⟨rfl, hB⟩
  rw [show ([] : List Int).isEmpty = true from rfl]
  go_wp2_with fail
  refine all_any.mono ?_
  rintro e w' ⟨rfl, rfl⟩
  go_wp2_with fail
  have bO := Boxed.new w0 22 (.slice none 0 0)
  have bN := Boxed.new (w0.alloc (.cells #[.slice none 0 0] 22)) 9 (.string s)
  rw [World.size_alloc] at bN
  have hws := hB.size
  have hB0 : Below w.heap.size w ((w0.alloc (.cells #[.slice none 0 0] 22)).alloc (.cells #[.string s] 9)) := (hB.alloc (by omega) _).alloc (by simp; omega) _
  refine (wpIn_wide (n := 3)).1 ?_
  refine' wpIn_rangeFunc_ownG rfl (by omega) (gf := 90) (lb := #[.pointer (some ⟨w0.heap.size + 1, 0, none⟩)]) (by simp [go_sem]) trivial (enters_of Tryz.func90 (by kernel_rfl) rfl)
    (HST.out _ _ w.heap.size bN) ukp_t (ukp_b (by simp; omega) (by simp)) (Below.refl _ _) (fun _ => rfl)
    (fun pre W => (∃ v, Boxed W w0.heap.size 22 v ∧ W.ownsRow w.heap.size 21 1 v (uRs pre).length ((uRs pre).map (Value.int .i32)) ∧ True) ∧ Below w.heap.size w W)
    (fun _ _ _ => False)
    (OwnFrom.and (Own.from (holdsRow_own w.heap.size w0.heap.size 22 21 1 (fun pre => (uRs pre).length) (fun pre => (uRs pre).map (Value.int .i32)) (fun pre v => True)) _) (ownFrom_below (Nat.le_refl _) (by simp; omega)))
    (fun _ _ _ _ _ hs _ _ => hs)
    ⟨⟨_, bO.alloc _, World.ownsRow_nil _ _ _ _, trivial⟩, hB0⟩ _ _ _ _ _
  case refine'_2 =>
    intro l x W K hK
    gi_wp2
    exact hK
  case refine'_3 =>
    rintro l pre x W ⟨⟨v, hv, hrow, -⟩, hBW⟩ hlt
    have hc := hv.cell
    have hul : (uRs pre).length ≤ pre.length := Nat.le_of_eq (uRs_len pre)
    have hsn := hide (uRs_snoc pre x)
    obtain ⟨⟨p1, p⟩, hx1, hx2, hx3⟩ := x
    simp only at hx1 hx2 hx3 hsn ⊢
    gi_wp2_with (gi_at_builtin; refine wpListIn_append_own _ rfl _ _ 22 rfl w.heap.size 21 i0 (.int .i32 0) 1 4 Tryz.underlying22 hi hz0 hz1 hz2 rfl (by decide) _ _ _ rfl (hrow.alloc _) ⟨W.heap.size, 0, none⟩ 1 1 [.int .i32 p] rfl rfl (cell_one_new _ _ _) (by simp [Value.oneCell']) (by unfold maxLen; omega) (by omega) (by have := hBW.size; simp; omega) ?_; intro v' w1 hown' hgrow _; obtain ⟨g', cap', rfl⟩ := ownsRow_succ hown'; obtain ⟨hv1, hv2, hr2, hk2, hb2⟩ := hv.appended (by decide) hrow hBW.size hws hown' hgrow; have hc1 := hv1.cell; have hf1 := hv1.frozen)
    refine ⟨hk2.from _, ⟨hb2, fun u h => ((h.alloc _).kept hgrow (h.not_row (by decide) hrow)).other (by omega) _⟩, ⟨_, hv2, ?_, trivial⟩, hBW.trans hb2⟩
    rw [hsn.out]
    simpa using hr2
  case refine'_4 =>
    rintro D ys W hD hys ⟨⟨v, hv, hrow, -⟩, hBW⟩ hK
    have hc := hv.cell
    rw [uRs_all hys] at hrow
    go_wp2
    refine ⟨by simp, .inl ⟨_, _, rfl, run_takeDeferred hK, ?_⟩⟩
    exact ⟨_, results_tmp2 rfl _ _ _, v, rfl, ownsRow_putObj hrow _ hK rfl, hBW.trans (belowK_b (w := w) (Nat.le_refl _) W D _ _ (by simp at hD; omega) hK rfl rfl)⟩
  case refine'_5 =>
    rintro D c pre W _ _ h _
    exact h.elim

theorem runes_not {s : ByteArray} {es ps t : List Int} {w : World} (hb : uByt es) (hs : s = strOfNums es) (hl : es.length ≤ 17592186044416) (hS : USplit es ps t) (ht : t ≠ []) :
    Calls Tryz.prog 6 #[.string s] w fun e w' => e = .returned (.tuple #[.slice none 0 0, .bool false]) ∧ Below w.heap.size w w' := by
  have HIT := hide (fun w => isText_any (w := w) hb hs (by omega) hS)
  rw [show t.isEmpty = false by cases t; exact absurd rfl ht; rfl] at HIT
  clear hb hs hl hS ht
  go_enter Tryz.func6, Tryz.ntmps6
  go_wp2_with (go_at_call 25; refine (HIT.out _).mono ?_; rintro e w0 ⟨rfl, hB⟩)
  go_ret2
  exact ⟨rfl, hB⟩

theorem units_not {s : ByteArray} {es ps t : List Int} {w : World} (hb : uByt es) (hs : s = strOfNums es) (hl : es.length ≤ 17592186044416) (hS : USplit es ps t) (ht : t ≠ []) :
    Calls Tryz.prog 16 #[.string s] w fun e w' => e = .returned (.tuple #[.slice none 0 0, .bool false]) ∧ Below w.heap.size w w' := by
  have HIT := hide (fun w => isText_any (w := w) hb hs (by omega) hS)
  rw [show t.isEmpty = false by cases t; exact absurd rfl ht; rfl] at HIT
  clear hb hs hl hS ht
  go_enter Tryz.func16, Tryz.ntmps16
  go_wp2_with (go_at_call 25; refine (HIT.out _).mono ?_; rintro e w0 ⟨rfl, hB⟩)
  go_ret2
  exact ⟨rfl, hB⟩

end Go.Proofs.YtddamkdkaijfjaaGreatDoor
