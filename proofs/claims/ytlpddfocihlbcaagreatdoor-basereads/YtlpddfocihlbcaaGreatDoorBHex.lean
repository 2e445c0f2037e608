/- base.Hex -/
import Derived.Test.YtlpddfocihlbcaaGreatDoorBKit
namespace Go.Proofs.YtlpddfocihlbcaaGreatDoor
open Go.RowKit
set_option linter.unusedVariables false

theorem bHex_snoc {es : List Int} {k : Nat} (h : k < es.length) : bHex (es.take (k + 1)) = bHex (es.take k) ++ [bDig (Nt.lb es k / 16), bDig (Nt.lb es k % 16)] := by
  rw [List.take_succ_eq_append_getElem h, bHex_app, ulb_get h]; rfl
theorem lb_byt {es : List Int} (hb : uByt es) {k : Nat} (h : k < es.length) : 0 ≤ Nt.lb es k ∧ Nt.lb es k < 256 := by rw [ulb_get h]; exact hb _ (List.getElem_mem h)

set_option maxRecDepth 100000 in
set_option maxHeartbeats 4000000 in
theorem hex_any {w : World} {v : Value} {es : List Int} (hr : Reads .u8 w v es) (hb : uByt es) (hl : es.length ≤ 16777300) :
    Calls Tryz.prog 61 #[v] w fun e w' => e = .returned (.string (strOfNums (bHex es))) ∧ Below w.heap.size w w' := by
  obtain ⟨ao, cap, rfl, hxl, hxm, hxc⟩ := hr
  have HC := hide hxc
  have HBy := hide hb
  clear hxc hb
  go_enter Tryz.func61, Tryz.ntmps61
  go_wp2_with (at_make; refine wpList_make_row _ rfl _ _ 39 rfl 5 .u8 1 Tryz.underlying39 Tryz.infoY8 _ _ _ _ 0 (2 * es.length) rfl rfl (by omega) (by omega) (by omega) (by omega) (by unfold maxLen; omega) ?_)
  intro w1 hrow hbel hsz
  have HO := hide (own_of_made (B := w.heap.size) hrow (Nat.le_refl _) (by unfold maxLen; omega))
  have HB := hide hbel
  clear hrow hbel
  go_wp2
  go_loopw [3, 12] (fun s3 si wr => ∃ (k : Nat) (v : Value), s3 = v ∧ si = .int .i64 k ∧ k ≤ es.length ∧ Hid (wr.ownsRow w.heap.size 5 1 v (2 * k) ((bHex (es.take k)).map (Value.int .u8))) ∧ Hid (Below w.heap.size w wr)) (fun _ si _ => es.length - (intOf si).toNat)
  case atStart => exact ⟨0, _, rfl, rfl, by omega, HO, HB⟩
  case round =>
    obtain ⟨k, v, rfl, rfl, hk, HO, HB⟩ := hrel
    by_cases hlt : k < es.length
    · obtain ⟨b, off, rfl, hb, hcell⟩ := (HC.out.below HB.out) (by omega)
      have hc := hcell k hlt
      have hx := lb_byt HBy.out hlt
      have HS := hide (bHex_snoc hlt)
      clear hcell
      obtain ⟨x, hxx⟩ : ∃ x, Nt.lb es k = x := ⟨_, rfl⟩
      rw [hxx] at hc hx HS
      clear hxx
      have i1 := fun W => dig_index (k := .u8) (i := x / 16) (by omega) (by omega) W
      have i2 := fun W => dig_index (k := .u8) (i := x % 16) (by omega) (by omega) W
      have i3 := and15 x hx.1 hx.2
      obtain ⟨d1, e1⟩ : ∃ d, bDig (x / 16) = d := ⟨_, rfl⟩
      obtain ⟨d2, e2⟩ : ∃ d, bDig (x % 16) = d := ⟨_, rfl⟩
      rw [e1] at i1 HS
      rw [e2] at i2 HS
      clear e1 e2
      have h63 : 2 * k + [d1, d2].length ≤ maxLen := by unfold maxLen; simp; omega
      have hbt : (2 * k + [d1, d2].length) * 1 ≤ 140737488355328 := by simp; omega
      have HM := hide (And.intro h63 hbt)
      clear h63 hbt
      go_wp2
      go_region_law (refine ustep_append_ints rfl (.tmp 16) (.tmp 23) 39 rfl w.heap.size 5 .u8 1 Tryz.underlying39 Tryz.infoY8 _ (2 * k) _ rfl (HO.out.alloc _) _ _ [d1, d2] rfl (cells_new _ _ _ _) HM.out.1 HM.out.2 (by have := HB.out.size; simp; omega) ?_; intro v' w5 hown' hgrow)
      all_goals
        have hbS := HB.out.size
        have hB5 : Below w.heap.size w w5 := bown_below (w := (wr.alloc (.cells #[.int .u8 d1, .int .u8 d2] 5)).drew) (HB.out.alloc hbS _).drew (by show w.heap.size ≤ (wr.alloc _).heap.size; simp; omega) (HO.out.alloc (.cells #[.int .u8 d1, .int .u8 d2] 5)) hgrow
        have HO5 := hide hown'
        have HB5 := hide hB5
        clear hown' hgrow hB5
        go_wp2
        go_roundw
      all_goals first
        | exact ⟨k + 1, v', rfl, by go_num, by omega, hide (by rw [HS.out]; exact HO5.out), HB5⟩
        | (simp [intOf]; omega)
    · have hke : k = es.length := by omega
      subst hke
      rw [List.take_length] at HO
      have hcv := reads_conv (breads_of_own (by rw [bHex_len]) HO.out)
      go_wp2
      go_ret
      exact ⟨rfl, HB.out⟩

end Go.Proofs.YtlpddfocihlbcaaGreatDoor
