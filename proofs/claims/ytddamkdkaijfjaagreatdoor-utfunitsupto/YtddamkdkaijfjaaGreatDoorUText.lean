/- utf: behind, write, Text -/
import Derived.Test.YtddamkdkaijfjaaGreatDoorUBld
import Derived.Test.YtddamkdkaijfjaaGreatDoorUFirst
import Derived.Laws.BitsLemmas
namespace Go.Proofs.YtddamkdkaijfjaaGreatDoor
open Go.RowKit
set_option linter.unusedVariables false

theorem wrap8 {x : Int} (h0 : 0 ≤ x) (h1 : x < 256) : IntKind.u8.wrap x = x := by rw [IntKind.wrap_u8]; omega
theorem behind_any {w : World} {r : Int} (h0 : 0 ≤ r) (h1 : r < 2147483648) : Calls Tryz.prog 94 #[.int .i32 r] w fun e w' => e = .returned (.int .u8 (128 + r % 64)) ∧ w' = w := by
  have a1 : bits .and .i32 r 63 = r % 64 := bits_mask .i32 31 (by decide) wraps_i32 6 (by decide) r h0 h1
  have a2 := wrap8 (x := r % 64) (by omega) (by omega)
  have a3 := u8_or128 (r % 64) (by omega) (by omega)
  go_enter Tryz.func94, Tryz.ntmps94
  go_wp2
  go_ret
  exact ⟨rfl, rfl⟩

set_option maxRecDepth 100000 in
set_option maxHeartbeats 4000000 in
theorem uwrite_any {B b : Nat} {es : List Int} {r : Int} {w : World} (h : Bd B b es w) (hp : uPt r = true) (hl : es.length + 4 ≤ 140737488355328) (hBw : B ≤ w.heap.size) :
    Calls Tryz.prog 31 #[.pointer (some ⟨b, 0, none⟩), .int .i32 r] w fun e w' => e = .returned (.tuple #[]) ∧ Bd B b (es ++ uEnc r) w' ∧ Below B w w' := by
  have hr := uPt_iff.1 hp
  have hz := uSz_pt hp
  have HS := hide (fun w => usize_any (w := w) (r := r))
  have H := hide h
  rw [hz] at HS
  clear hz hp h
  by_cases h1 : r < 128
  · have e : uEnc r = [r] := by unfold uEnc; rw [if_pos h1]
    rw [e] at HS ⊢
    have w1 := wrap8 (x := r) (by omega) (by omega)
    clear e
    go_enter Tryz.func31, Tryz.ntmps31
    go_wp2_with fail
    refine (HS.out _).mono ?_
    rintro e w' ⟨rfl, rfl⟩
    go_wp2_with fail
    refine (H.out.byte (c := r) (by omega) (by omega) (by omega) hBw).mono ?_
    rintro e w2 ⟨rfl, hb2, k2⟩
    go_wp2
    refine bodyPost_ret (results_none rfl _ _ _) rfl ⟨rfl, hb2, k2⟩
  · by_cases h2 : r < 2048
    · have e : uEnc r = [192 + r / 64, 128 + r % 64] := by unfold uEnc; rw [if_neg h1, if_pos h2]
      rw [e] at HS ⊢
      have w1 := wrap8 (x := r / 64) (by omega) (by omega)
      have w2 := u8_or192 (r / 64) (by omega) (by omega)
      clear e
      go_enter Tryz.func31, Tryz.ntmps31
      go_wp2_with fail
      refine (HS.out _).mono ?_
      rintro e w' ⟨rfl, rfl⟩
      go_wp2_with fail
      refine (H.out.byte (c := 192 + r / 64) (by omega) (by omega) (by omega) hBw).mono ?_
      rintro e w2 ⟨rfl, hb2, k2⟩
      have z2 := k2.size
      go_wp2_with fail
      refine (behind_any (by omega) (by omega)).mono ?_
      rintro e w3 ⟨rfl, rfl⟩
      go_wp2_with fail
      refine (hb2.byte (c := 128 + r % 64) (by omega) (by omega) (by simp; omega) (by omega)).mono ?_
      rintro e w4 ⟨rfl, hb4, k4⟩
      go_wp2
      go_end0
      exact ⟨rfl, by simpa using hb4, k2.trans k4⟩
    · by_cases h3 : r < 65536
      · have e : uEnc r = [224 + r / 4096, 128 + r / 64 % 64, 128 + r % 64] := by unfold uEnc; rw [if_neg h1, if_neg h2, if_pos h3]
        rw [e] at HS ⊢
        have w1 := wrap8 (x := r / 4096) (by omega) (by omega)
        have w2 := u8_or224 (r / 4096) (by omega) (by omega)
        clear e
        go_enter Tryz.func31, Tryz.ntmps31
        go_wp2_with fail
        refine (HS.out _).mono ?_
        rintro e w' ⟨rfl, rfl⟩
        go_wp2_with fail
        refine (H.out.byte (c := 224 + r / 4096) (by omega) (by omega) (by omega) hBw).mono ?_
        rintro e w2 ⟨rfl, hb2, k2⟩
        have z2 := k2.size
        go_wp2_with fail
        refine (behind_any (r := r / 64) (by omega) (by omega)).mono ?_
        rintro e w3 ⟨rfl, rfl⟩
        go_wp2_with fail
        refine (hb2.byte (c := 128 + r / 64 % 64) (by omega) (by omega) (by simp; omega) (by omega)).mono ?_
        rintro e w4 ⟨rfl, hb4, k4⟩
        have z4 := k4.size
        go_wp2_with fail
        refine (behind_any (by omega) (by omega)).mono ?_
        rintro e w5 ⟨rfl, rfl⟩
        go_wp2_with fail
        refine (hb4.byte (c := 128 + r % 64) (by omega) (by omega) (by simp; omega) (by omega)).mono ?_
        rintro e w6 ⟨rfl, hb6, k6⟩
        go_wp2
        go_end0
        exact ⟨rfl, by simpa using hb6, (k2.trans k4).trans k6⟩
      · have e : uEnc r = [240 + r / 262144, 128 + r / 4096 % 64, 128 + r / 64 % 64, 128 + r % 64] := by unfold uEnc; rw [if_neg h1, if_neg h2, if_neg h3]
        rw [e] at HS ⊢
        have w1 := wrap8 (x := r / 262144) (by omega) (by omega)
        have w2 := u8_or240 (r / 262144) (by omega) (by omega)
        clear e
        go_enter Tryz.func31, Tryz.ntmps31
        go_wp2_with fail
        refine (HS.out _).mono ?_
        rintro e w' ⟨rfl, rfl⟩
        go_wp2_with fail
        refine (H.out.byte (c := 240 + r / 262144) (by omega) (by omega) (by omega) hBw).mono ?_
        rintro e w2 ⟨rfl, hb2, k2⟩
        have z2 := k2.size
        go_wp2_with fail
        refine (behind_any (r := r / 4096) (by omega) (by omega)).mono ?_
        rintro e w3 ⟨rfl, rfl⟩
        go_wp2_with fail
        refine (hb2.byte (c := 128 + r / 4096 % 64) (by omega) (by omega) (by simp; omega) (by omega)).mono ?_
        rintro e w4 ⟨rfl, hb4, k4⟩
        have z4 := k4.size
        go_wp2_with fail
        refine (behind_any (r := r / 64) (by omega) (by omega)).mono ?_
        rintro e w5 ⟨rfl, rfl⟩
        go_wp2_with fail
        refine (hb4.byte (c := 128 + r / 64 % 64) (by omega) (by omega) (by simp; omega) (by omega)).mono ?_
        rintro e w6 ⟨rfl, hb6, k6⟩
        have z6 := k6.size
        go_wp2_with fail
        refine (behind_any (by omega) (by omega)).mono ?_
        rintro e w7 ⟨rfl, rfl⟩
        go_wp2_with fail
        refine (hb6.byte (c := 128 + r % 64) (by omega) (by omega) (by simp; omega) (by omega)).mono ?_
        rintro e w8 ⟨rfl, hb8, k8⟩
        go_wp2
        go_end0
        exact ⟨rfl, by simpa using hb8, ((k2.trans k4).trans k6).trans k8⟩

theorem uFlat_le (ps : List Int) : (uFlat ps).length ≤ 4 * ps.length := by
  induction ps with
  | nil => simp [uFlat]
  | cons p ps ih => rw [uFlat_cons, List.length_append, List.length_cons]; have := uEnc_le p; omega

set_option maxRecDepth 100000 in
set_option maxHeartbeats 4000000 in
theorem text_any {v : Value} {xs : List Int} {w : World} (hr : Reads .i32 w v xs) (hl : xs.length ≤ 17592186044416) :
    Calls Tryz.prog 10 #[v] w fun e w' => e = .returned (.tuple #[.string (strOfNums (if xs.all uPt then uFlat xs else [])), .bool (xs.all uPt)]) ∧ Below w.heap.size w w' := by
  obtain ⟨ao, ca, rfl, hxl, hxm, hxc⟩ := hr
  unfold maxLen at hxm
  have hbd := Bd.new w
  have hK0 : Below w.heap.size w (w.alloc (.cells #[.pointer none, .slice none 0 0] 71)) := (Below.refl _ _).alloc (Nat.le_refl _) _
  obtain ⟨R, hR⟩ : ∃ R : Bool, xs.all uPt = R := ⟨_, rfl⟩
  rw [hR]
  have HR := hide hR
  clear hR
  go_enter Tryz.func10, Tryz.ntmps10
  go_wp2
  obtain ⟨w0, hw0⟩ : ∃ x, x = w.alloc (.cells #[.pointer none, .slice none 0 0] 71) := ⟨_, rfl⟩
  rw [← hw0] at hbd hK0 ⊢
  clear hw0
  go_loopg [6, 9] xs.length (fun c s6 i wr => ∃ k : Nat, k ≤ xs.length ∧ i = .int .i64 k ∧ c = xs.length - k ∧ Hid (Bd w.heap.size w.heap.size (uFlat (xs.take k)) wr) ∧ Hid ((xs.take k).all uPt = true) ∧ Below w.heap.size w wr)
  case atStart => exact ⟨0, by omega, rfl, by omega, hide hbd, hide rfl, hK0⟩
  case round =>
    obtain ⟨k, hk, rfl, hg, hB, hall, hbr⟩ := hrel
    have hzr := hbr.size
    by_cases hlt : k < xs.length
    · have p1 : (k : Int) < (xs.length : Int) := by omega
      obtain ⟨b1, o1, rfl, _, hc1⟩ := (hxc.below hbr) (by omega)
      have g1 := hc1 k hlt
      have HT := hide (show xs.take (k + 1) = xs.take k ++ [Nt.lb xs k] by rw [List.take_add_one, List.getElem?_eq_getElem hlt, ← ulb_get hlt]; rfl)
      have HM := hide (show uPt (Nt.lb xs k) = false → xs.all uPt = false from fun h => by
        cases h2 : xs.all uPt
        · rfl
        · rw [List.all_eq_true] at h2
          rw [ulb_get hlt, h2 _ (List.getElem_mem hlt)] at h
          cases h)
      obtain ⟨p, hp⟩ : ∃ p, Nt.lb xs k = p := ⟨_, rfl⟩
      rw [hp] at g1 HT HM
      clear hc1 hp
      cases hpt : uPt p with
      | false =>
        have hz : uSz p = 0 := uSz_zero.2 hpt
        have hRf : R = false := by rw [← HR.out]; exact HM.out hpt
        subst hRf
        have HS := hide (fun w => usize_any (w := w) (r := p))
        rw [hz] at HS
        clear hz
        go_wp2_with (go_at_call 30; refine (HS.out _).mono ?_; rintro e w' ⟨rfl, rfl⟩)
        go_ret2
        exact ⟨rfl, hbr⟩
      | true =>
        have hz := uSz_pt hpt
        have hpos := uEnc_pos p
        have HS := hide (fun w => usize_any (w := w) (r := p))
        have q1 : ((uSz p : Int) == 0) = false := beq_eq_false_iff_ne.2 (by omega)
        have hfl := uFlat_le (xs.take k)
        rw [List.length_take] at hfl
        have HW := hide (fun hb => uwrite_any (w := wr) hB.out hpt (by omega) hb)
        clear hz
        go_wp2_with (first | (go_at_call 30; refine (HS.out _).mono ?_; rintro e w' ⟨rfl, rfl⟩) | (go_at_call 31; refine (HW.out hzr).mono ?_; rintro e w2 ⟨rfl, hb2, k2⟩; have HB2 := hide hb2; clear hb2))
        go_roundg (xs.length - (k + 1))
        case measure => omega
        case rel => exact ⟨k + 1, by omega, by simp, rfl, hide (by rw [HT.out, uFlat_snoc]; exact HB2.out), hide (by rw [HT.out, List.all_append, hall.out]; simp [hpt]), hbr.trans k2⟩
    · have p1 : ¬ (k : Int) < (xs.length : Int) := by omega
      have hke : xs.take k = xs := by rw [List.take_of_length_le (by omega)]
      have hRt : R = true := by rw [← HR.out, ← hke]; exact hall.out
      subst hRt
      have HST := hide (Bd.string hB.out hzr)
      rw [hke] at HST
      clear hke
      go_wp2_with (go_at_call 32; refine HST.out.mono ?_; rintro e w2 ⟨rfl, k2⟩)
      go_ret2
      exact ⟨rfl, hbr.trans k2⟩

end Go.Proofs.YtddamkdkaijfjaaGreatDoor
