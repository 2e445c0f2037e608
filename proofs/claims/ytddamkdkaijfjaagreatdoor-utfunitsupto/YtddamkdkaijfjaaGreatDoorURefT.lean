/- ref09.Text -/
import Derived.Test.YtddamkdkaijfjaaGreatDoorURefR
import Derived.Test.YtddamkdkaijfjaaGreatDoorUText
import Derived.Test.YtddamkdkaijfjaaGreatDoorUApp
namespace Go.Proofs.YtddamkdkaijfjaaGreatDoor
open Go.RowKit
set_option linter.unusedVariables false

theorem rtxt_of {w : World} {v : Value} {zs : List Int} (h : Reads .u8 w v zs) (hn : 0 < zs.length) : (convert 66 9 v).run Tryz.prog w = .ok (.string (strOfNums zs)) w := by
  obtain ⟨ao, cap, rfl, h2, h3, h4⟩ := h
  obtain ⟨b, off, rfl, _, e3⟩ := h4 hn
  refine run_convert_bytes_arg w 66 5 Tryz.underlying66 Tryz.underlying5 b off zs.length cap zs rfl ?_ 9 Tryz.underlying9
  intro i hi
  rw [e3 i hi]; simp [Nt.lb]

theorem rconv_none (w : World) : (convert 66 9 (.slice none 0 0)).run Tryz.prog w = .ok (.string (strOfNums [])) w :=
  run_convert_bytes_nil w 66 5 Tryz.underlying66 Tryz.underlying5 0 0 9 Tryz.underlying9
theorem Tryz.infoU8t : (Tryz.prog.info? 5).map (fun i => (i.zero, i.size, i.bytes)) = some (some (.int .u8 0), 1, 1) := by kernel_rfl
theorem rtxt_nil (w : World) (g cap : Nat) : (convert 66 9 (.slice (some ⟨g, 0, none⟩) 0 cap)).run Tryz.prog w = .ok (.string (strOfNums [])) w :=
  run_convert_bytes_arg w 66 5 Tryz.underlying66 Tryz.underlying5 g 0 0 cap [] rfl (fun i hi => absurd hi (by simp)) 9 Tryz.underlying9
theorem own_ge' {w : World} {B : Nat} {E : TypeId} {s n : Nat} {v : Value} {xs : List Value} (ho : w.ownsRow B E s v n xs) : ∀ j, v.ownBlock = some j → B ≤ j := by
  intro j ej
  rcases ho.2 with ⟨rfl, _⟩ | ⟨g, cap, cur, rfl, hb, _, _⟩
  · simp [Value.ownBlock] at ej
  · obtain rfl : g = j := by simpa [Value.ownBlock] using ej
    exact hb
theorem renc_cells {w : World} (p : Int) : Cells .u8 (w.alloc (.cells ((uEnc p).map (Value.int .u8)).toArray 5)) (some ⟨w.heap.size, 0, none⟩) (uEnc p) := by
  intro hp
  refine ⟨w.heap.size, 0, rfl, by simp, fun i hi => ?_⟩
  rw [cell_of_row _ _ _ _ _ _ (World.alloc_heap_new w _)]
  rw [ulb_get hi]
  simp [hi]
theorem own_conv {w : World} {B : Nat} {v : Value} {zs : List Int} (h : w.ownsRow B 5 1 v zs.length (zs.map (Value.int .u8))) : (convert 66 9 v).run Tryz.prog w = .ok (.string (strOfNums zs)) w := by
  have hr := owns_reads rfl h
  cases zs with
  | nil =>
    rcases h.2 with ⟨rfl, _⟩ | ⟨g, cap, cur, rfl, _, _, _⟩
    · exact rconv_none w
    · exact rtxt_nil w _ _
  | cons a b => exact rtxt_of hr (by simp)

set_option maxRecDepth 100000 in
set_option maxHeartbeats 4000000 in
theorem rtext_any {v : Value} {xs : List Int} {w : World} (hr : Reads .i32 w v xs) (hx : ∀ x ∈ xs, -2147483648 ≤ x ∧ x ≤ 2147483647) (hl : xs.length ≤ 1099511627776) :
    Calls Tryz.prog 9 #[v] w fun e w' => e = .returned (.tuple #[.string (strOfNums (if xs.all uPt then uFlat xs else [])), .bool (xs.all uPt)]) ∧ Below w.heap.size w w' := by
  obtain ⟨ao, ca, rfl, hxl, hxm, hxc⟩ := hr
  unfold maxLen at hxm
  obtain ⟨R, hR⟩ : ∃ R : Bool, xs.all uPt = R := ⟨_, rfl⟩
  rw [hR]
  have HR := hide hR
  have HX := hide hx
  clear hR hx
  go_enter Tryz.func9, Tryz.ntmps9
  go_wp2
  go_loopg [4, 5] xs.length (fun c b i wr => ∃ k : Nat, k ≤ xs.length ∧ i = .int .i64 k ∧ c = xs.length - k ∧ Hid (wr.ownsRow w.heap.size 5 1 b (uFlat (xs.take k)).length ((uFlat (xs.take k)).map (Value.int .u8))) ∧ Hid ((xs.take k).all uPt = true) ∧ Below w.heap.size w wr)
  case atStart => exact ⟨0, by omega, rfl, by omega, hide (World.ownsRow_nil _ _ _ _), hide rfl, Below.refl _ _⟩
  case round =>
    obtain ⟨k, hk, rfl, hg, hrow, hall, hbr⟩ := hrel
    have hzr := hbr.size
    by_cases hlt : k < xs.length
    · have p1 : (k : Int) < (xs.length : Int) := by omega
      obtain ⟨b1, o1, rfl, _, hc1⟩ := (hxc.below hbr) (by omega)
      have g1 := hc1 k hlt
      have hxk := HX.out _ (show Nt.lb xs k ∈ xs by rw [ulb_get hlt]; exact List.getElem_mem hlt)
      have HT := hide (show xs.take (k + 1) = xs.take k ++ [Nt.lb xs k] by rw [List.take_add_one, List.getElem?_eq_getElem hlt, ← ulb_get hlt]; rfl)
      have HM := hide (show uPt (Nt.lb xs k) = false → xs.all uPt = false from fun h => by
        cases h2 : xs.all uPt
        · rfl
        · rw [List.all_eq_true] at h2
          rw [ulb_get hlt, h2 _ (List.getElem_mem hlt)] at h
          cases h)
      obtain ⟨p, hp⟩ : ∃ p, Nt.lb xs k = p := ⟨_, rfl⟩
      rw [hp] at g1 HT HM hxk
      have q6 : IntKind.i64.wrap p = p := by simp [IntKind.wrap, IntKind.bits, IntKind.signed]; omega
      clear hc1 hp
      have HPT := hide (fun w => rpoint_any (w := w) (p := p))
      cases hpt : uPt p with
      | false =>
        have hRf : R = false := by rw [← HR.out]; exact HM.out hpt
        subst hRf
        rw [hpt] at HPT
        go_wp2_with (go_at_call 28; refine (HPT.out _).mono ?_; rintro e w' ⟨rfl, rfl⟩)
        go_ret2
        exact ⟨rfl, hbr⟩
      | true =>
        rw [hpt] at HPT
        have HE := hide (fun w => renc_any (w := w) hpt)
        have hfl := uFlat_le (xs.take k)
        rw [List.length_take] at hfl
        have hel := uEnc_le p
        have HPE := hide hpt
        clear hpt
        go_wp2_with (first
          | (go_at_call 28; refine (HPT.out _).mono ?_; rintro e w' ⟨rfl, rfl⟩)
          | (go_at_call 29; refine (HE.out _).mono ?_; rintro e w' ⟨rfl, rfl⟩)
          | (at_builtin; refine uwpList_append_ints _ rfl _ _ 66 rfl w.heap.size 5 .u8 1 Tryz.underlying66 Tryz.infoU8t u4 _ (uFlat (xs.take k)) rfl (hrow.out.alloc _) (some ⟨w'.heap.size, 0, none⟩) (uEnc p).length (uEnc p) rfl (renc_cells (w := w') p) (by unfold maxLen; omega) (by omega) (by simp; omega) ?_; intro v' w2 hown' hgrow; have HO := hide hown'; have HB2 := hide (own_grows4 (hbr.alloc (by omega) _) (by simp; omega) (hrow.out.alloc _) hgrow); clear hown' hgrow))
        go_roundg (xs.length - (k + 1))
        case measure => omega
        case rel => exact ⟨k + 1, by omega, by simp, rfl, hide (by rw [HT.out, uFlat_snoc, List.length_append]; exact HO.out), hide (by rw [HT.out, List.all_append, hall.out]; simp [HPE.out]), HB2.out⟩
    · have p1 : ¬ (k : Int) < (xs.length : Int) := by omega
      have hke : xs.take k = xs := by rw [List.take_of_length_le (by omega)]
      have hRt : R = true := by rw [← HR.out, ← hke]; exact hall.out
      subst hRt
      have hrow2 := hrow.out
      rw [hke] at hrow2
      have hcv := own_conv hrow2
      clear hke hrow2
      go_wp2
      go_ret2
      exact ⟨rfl, hbr⟩

end Go.Proofs.YtddamkdkaijfjaaGreatDoor
