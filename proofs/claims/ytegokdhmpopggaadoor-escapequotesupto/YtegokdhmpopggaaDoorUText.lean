/- utf: behind, write, Text -/
import Derived.Test.YtegokdhmpopggaaDoorUBld
import Derived.Test.YtegokdhmpopggaaDoorUFirst
import Derived.Laws.BitsLemmas
namespace Go.Proofs.YtegokdhmpopggaaDoor
open Go.RowKit
set_option linter.unusedVariables false

theorem wrap8 {x : Int} (h0 : 0 ≤ x) (h1 : x < 256) : IntKind.u8.wrap x = x := by rw [IntKind.wrap_u8]; omega
theorem behind_any {w : World} {r : Int} (h0 : 0 ≤ r) (h1 : r < 2147483648) : Calls Tryd.prog 74 #[.int .i32 r] w fun e w' => e = .returned (.int .u8 (128 + r % 64)) ∧ w' = w := by
  have a1 : bits .and .i32 r 63 = r % 64 := bits_mask .i32 31 (by decide) wraps_i32 6 (by decide) r h0 h1
  have a2 := wrap8 (x := r % 64) (by omega) (by omega)
  have a3 := u8_or128 (r % 64) (by omega) (by omega)
  go_enter Tryd.func74, Tryd.ntmps74
  go_wp2
  go_ret
  exact ⟨rfl, rfl⟩

set_option maxRecDepth 100000 in
set_option maxHeartbeats 4000000 in
theorem uwrite_any {B b : Nat} {es : List Int} {r : Int} {w : World} (h : Bd B b es w) (hp : uPt r = true) (hl : es.length + 4 ≤ 140737488355328) (hBw : B ≤ w.heap.size) :
    Calls Tryd.prog 72 #[.pointer (some ⟨b, 0, none⟩), .int .i32 r] w fun e w' => e = .returned (.tuple #[]) ∧ Bd B b (es ++ uEnc r) w' ∧ Below B w w' := by
  have hr := uPt_iff.1 hp
  have hz := uSz_pt hp
  have HS := hide (fun w => usize_any (w := w) (r := r))
  have H := hide h
  rw [hz] at HS
  clear hz hp h
  by_cases h1 : r < 128
  · have e : uEnc r = [r] := by unfold uEnc; rw [if_pos h1]
    rw [e] at HS ⊢
    have w1 := wrap8 (x := r) (by omega) (by omega)
    clear e
    go_enter Tryd.func72, Tryd.ntmps72
    go_wp2_with fail
    refine (HS.out _).mono ?_
    rintro e w' ⟨rfl, rfl⟩
    go_wp2_with fail
    refine (H.out.byte (c := r) (by omega) (by omega) (by omega) hBw).mono ?_
    rintro e w2 ⟨rfl, hb2, k2⟩
    go_wp2
    refine bodyPost_ret (results_none rfl _ _ _) rfl ⟨rfl, hb2, k2⟩
  · by_cases h2 : r < 2048
    · have e : uEnc r = [192 + r / 64, 128 + r % 64] := by unfold uEnc; rw [if_neg h1, if_pos h2]
      rw [e] at HS ⊢
      have w1 := wrap8 (x := r / 64) (by omega) (by omega)
      have w2 := u8_or192 (r / 64) (by omega) (by omega)
      clear e
      go_enter Tryd.func72, Tryd.ntmps72
      go_wp2_with fail
      refine (HS.out _).mono ?_
      rintro e w' ⟨rfl, rfl⟩
      go_wp2_with fail
      refine (H.out.byte (c := 192 + r / 64) (by omega) (by omega) (by omega) hBw).mono ?_
      rintro e w2 ⟨rfl, hb2, k2⟩
      have z2 := k2.size
      go_wp2_with fail
      refine (behind_any (by omega) (by omega)).mono ?_
      rintro e w3 ⟨rfl, rfl⟩
      go_wp2_with fail
      refine (hb2.byte (c := 128 + r % 64) (by omega) (by omega) (by simp; omega) (by omega)).mono ?_
      rintro e w4 ⟨rfl, hb4, k4⟩
      go_wp2
      go_end0
      exact ⟨rfl, by simpa using hb4, k2.trans k4⟩
    · by_cases h3 : r < 65536
      · have e : uEnc r = [224 + r / 4096, 128 + r / 64 % 64, 128 + r % 64] := by unfold uEnc; rw [if_neg h1, if_neg h2, if_pos h3]
        rw [e] at HS ⊢
        have w1 := wrap8 (x := r / 4096) (by omega) (by omega)
        have w2 := u8_or224 (r / 4096) (by omega) (by omega)
        clear e
        go_enter Tryd.func72, Tryd.ntmps72
        go_wp2_with fail
        refine (HS.out _).mono ?_
        rintro e w' ⟨rfl, rfl⟩
        go_wp2_with fail
        refine (H.out.byte (c := 224 + r / 4096) (by omega) (by omega) (by omega) hBw).mono ?_
        rintro e w2 ⟨rfl, hb2, k2⟩
        have z2 := k2.size
        go_wp2_with fail
        refine (behind_any (r := r / 64) (by omega) (by omega)).mono ?_
        rintro e w3 ⟨rfl, rfl⟩
        go_wp2_with fail
        refine (hb2.byte (c := 128 + r / 64 % 64) (by omega) (by omega) (by simp; omega) (by omega)).mono ?_
        rintro e w4 ⟨rfl, hb4, k4⟩
        have z4 := k4.size
        go_wp2_with fail
        refine (behind_any (by omega) (by omega)).mono ?_
        rintro e w5 ⟨rfl, rfl⟩
        go_wp2_with fail
        refine (hb4.byte (c := 128 + r % 64) (by omega) (by omega) (by simp; omega) (by omega)).mono ?_
        rintro e w6 ⟨rfl, hb6, k6⟩
        go_wp2
        go_end0
        exact ⟨rfl, by simpa using hb6, (k2.trans k4).trans k6⟩
      · have e : uEnc r = [240 + r / 262144, 128 + r / 4096 % 64, 128 + r / 64 % 64, 128 + r % 64] := by unfold uEnc; rw [if_neg h1, if_neg h2, if_neg h3]
        rw [e] at HS ⊢
        have w1 := wrap8 (x := r / 262144) (by omega) (by omega)
        have w2 := u8_or240 (r / 262144) (by omega) (by omega)
        clear e
        go_enter Tryd.func72, Tryd.ntmps72
        go_wp2_with fail
        refine (HS.out _).mono ?_
        rintro e w' ⟨rfl, rfl⟩
        go_wp2_with fail
        refine (H.out.byte (c := 240 + r / 262144) (by omega) (by omega) (by omega) hBw).mono ?_
        rintro e w2 ⟨rfl, hb2, k2⟩
        have z2 := k2.size
        go_wp2_with fail
        refine (behind_any (r := r / 4096) (by omega) (by omega)).mono ?_
        rintro e w3 ⟨rfl, rfl⟩
        go_wp2_with fail
        refine (hb2.byte (c := 128 + r / 4096 % 64) (by omega) (by omega) (by simp; omega) (by omega)).mono ?_
        rintro e w4 ⟨rfl, hb4, k4⟩
        have z4 := k4.size
        go_wp2_with fail
        refine (behind_any (r := r / 64) (by omega) (by omega)).mono ?_
        rintro e w5 ⟨rfl, rfl⟩
        go_wp2_with fail
        refine (hb4.byte (c := 128 + r / 64 % 64) (by omega) (by omega) (by simp; omega) (by omega)).mono ?_
        rintro e w6 ⟨rfl, hb6, k6⟩
        have z6 := k6.size
        go_wp2_with fail
        refine (behind_any (by omega) (by omega)).mono ?_
        rintro e w7 ⟨rfl, rfl⟩
        go_wp2_with fail
        refine (hb6.byte (c := 128 + r % 64) (by omega) (by omega) (by simp; omega) (by omega)).mono ?_
        rintro e w8 ⟨rfl, hb8, k8⟩
        go_wp2
        go_end0
        exact ⟨rfl, by simpa using hb8, ((k2.trans k4).trans k6).trans k8⟩

theorem uFlat_le (ps : List Int) : (uFlat ps).length ≤ 4 * ps.length := by
  induction ps with
  | nil => simp [uFlat]
  | cons p ps ih => rw [uFlat_cons, List.length_append, List.length_cons]; have := uEnc_le p; omega

end Go.Proofs.YtegokdhmpopggaaDoor
