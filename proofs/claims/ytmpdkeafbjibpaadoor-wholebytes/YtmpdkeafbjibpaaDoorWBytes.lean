import Derived.Test.YtmpdkeafbjibpaaDoorWLives
import Derived.Test.YtmpdkeafbjibpaaDoorWIn3
import Derived.Test.YtmpdkeafbjibpaaDoorFromTwos
/- bytes of two's complement, as plain numbers -/
namespace Go.Proofs.YtmpdkeafbjibpaaDoor
open Go.RowKit

theorem p2_top {N : Nat} (h : 1 ≤ N) : p2 (8 * N - 1) = 128 * Nb.pw (N - 1) := by
  rw [show 8 * N - 1 = 8 * (N - 1) + 7 by omega, ← p2_8]
  simp only [p2]
  omega
/-- the highest byte apart -/
theorem nb_top {es : List Int} {N : Nat} (ho : Nb.Ok es) (hN : es.length = N) (h : 1 ≤ N) : ∃ r b, 0 ≤ r ∧ r < Nb.pw (N - 1) ∧ b = Nt.lb es (N - 1) ∧ 0 ≤ b ∧ b < 256 ∧ Nb.val es = r + b * Nb.pw (N - 1) ∧ Nb.pw N = 256 * Nb.pw (N - 1) := by
  obtain ⟨m, rfl⟩ : ∃ m, N = m + 1 := ⟨N - 1, by omega⟩
  have hv : Nb.val es = Nb.vt es (m + 1) := by rw [← hN]; rfl
  have hb := Nb.vt_bounds ho m
  have hy := ho m
  exact ⟨Nb.vt es m, Nt.lb es m, hb.1, hb.2, rfl, hy.1, hy.2, by rw [hv, Nb.vt_succ]; rfl, Nb.pw_succ m⟩
theorem twv_told {es : List Int} {N : Nat} (ho : Nb.Ok es) (hN : es.length = N) (h : 1 ≤ N) : Fits N (twv es) ∧ TStr N (twv es) (strOfNums es.reverse) ∧ (twv es < 0 ↔ 128 ≤ Nt.lb es (N - 1)) := by
  obtain ⟨r, b, r0, r1, hb, b0, b1, hv, hp⟩ := nb_top ho hN h
  have hx : twv es = if 128 ≤ b then Nb.val es - Nb.pw N else Nb.val es := by unfold twv; rw [hN, ← hb]
  have ht := p2_top h
  have hpp := Nb.pw_pos (N - 1)
  rw [← hb]
  by_cases c : 128 ≤ b
  · rw [if_pos c] at hx
    have h1 : 128 * Nb.pw (N - 1) ≤ b * Nb.pw (N - 1) := Int.mul_le_mul_of_nonneg_right c (by omega)
    have h2 : b * Nb.pw (N - 1) ≤ 255 * Nb.pw (N - 1) := Int.mul_le_mul_of_nonneg_right (by omega) (by omega)
    refine ⟨⟨by omega, by omega⟩, ⟨es, ho, hN, rfl, ?_⟩, ⟨fun _ => c, fun _ => by omega⟩⟩
    rw [if_pos (by omega)]; omega
  · rw [if_neg c] at hx
    have h1 : b * Nb.pw (N - 1) ≤ 127 * Nb.pw (N - 1) := Int.mul_le_mul_of_nonneg_right (by omega) (by omega)
    have h2 : 0 ≤ b * Nb.pw (N - 1) := Int.mul_nonneg b0 (by omega)
    refine ⟨⟨by omega, by omega⟩, ⟨es, ho, hN, rfl, ?_⟩, ⟨fun _ => by omega, fun h' => absurd h' c⟩⟩
    rw [if_neg (by omega)]; omega
theorem twv_of {N : Nat} {x : Int} {s : ByteArray} (h : 1 ≤ N) (hf : Fits N x) (ht : TStr N x s) : ∃ es, Nb.Ok es ∧ s = strOfNums es.reverse ∧ es.length = N ∧ twv es = x := by
  obtain ⟨es, ho, hN, hs, hv'⟩ := ht
  refine ⟨es, ho, hs, hN, ?_⟩
  obtain ⟨r, b, r0, r1, hb, b0, b1, hv, hp⟩ := nb_top ho hN h
  have htp := p2_top h
  have hpp := Nb.pw_pos (N - 1)
  obtain ⟨f1, f2⟩ := hf
  unfold twv
  rw [hN, ← hb]
  by_cases c : 128 ≤ b
  · rw [if_pos c]
    have h1 : 128 * Nb.pw (N - 1) ≤ b * Nb.pw (N - 1) := Int.mul_le_mul_of_nonneg_right c (by omega)
    by_cases hx : x < 0
    · rw [if_pos hx] at hv'; omega
    · rw [if_neg hx] at hv'; omega
  · rw [if_neg c]
    have h1 : b * Nb.pw (N - 1) ≤ 127 * Nb.pw (N - 1) := Int.mul_le_mul_of_nonneg_right (by omega) (by omega)
    by_cases hx : x < 0
    · rw [if_pos hx] at hv'; omega
    · rw [if_neg hx] at hv'; omega
theorem fits_more {N : Nat} {x : Int} (h : Fits N x) : Fits (N + 1) x := by
  obtain ⟨h1, h2⟩ := h
  have := p2_mono (m := 8 * N - 1) (n := 8 * (N + 1) - 1) (by omega)
  exact ⟨by omega, by omega⟩
theorem nb_val_snoc {es : List Int} (b : Int) : Nb.val (es ++ [b]) = Nb.val es + b * Nb.pw es.length := by
  show Nb.vt _ _ = _
  rw [show (es ++ [b]).length = es.length + 1 by simp, Nb.vt_succ]
  have h1 : Nt.lb (es ++ [b]) es.length = b := by simp [Nt.lb]
  have h2 : Nb.vt (es ++ [b]) es.length = Nb.vt es es.length := Nb.vt_congr (fun i hi => by simp [Nt.lb, List.getElem?_append_left hi])
  rw [h1, h2]; rfl
theorem nb_ok_snoc {es : List Int} {b : Int} (h : Nb.Ok es) (hb : 0 ≤ b ∧ b < 256) : Nb.Ok (es ++ [b]) := by
  intro i
  by_cases hi : i < es.length
  · rw [show Nt.lb (es ++ [b]) i = Nt.lb es i by simp [Nt.lb, List.getElem?_append_left hi]]; exact h i
  · by_cases e : i = es.length
    · rw [e, show Nt.lb (es ++ [b]) es.length = b by simp [Nt.lb]]; exact hb
    · rw [Nt.lb_out (by simp; omega)]; omega
/-- a byte more ahead: the sign -/
theorem tstr_more {N : Nat} {x : Int} {s : ByteArray} (ht : TStr N x s) : TStr (N + 1) x ((if x < 0 then ⟨#[255]⟩ else ⟨#[0]⟩) ++ s) := by
  obtain ⟨es, ho, hN, hs, hv⟩ := ht
  have hp := Nb.pw_succ N
  by_cases hx : x < 0
  · rw [if_pos hx] at hv ⊢
    refine ⟨es ++ [255], nb_ok_snoc ho (by omega), by simp [hN], ?_, ?_⟩
    · rw [hs]; apply Go.WideShapes.bytes_inj; simp [strOfNums]
    · rw [nb_val_snoc, if_pos hx, hv, hN]; omega
  · rw [if_neg hx] at hv ⊢
    refine ⟨es ++ [0], nb_ok_snoc ho (by omega), by simp [hN], ?_, ?_⟩
    · rw [hs]; apply Go.WideShapes.bytes_inj; simp [strOfNums]
    · rw [nb_val_snoc, if_neg hx, hv]; omega
theorem nb_val_cons' (b : Int) : ∀ es : List Int, Nb.val (b :: es) = b + 256 * Nb.val es := by
  intro es
  have h : ∀ n, Nb.vt (b :: es) (n + 1) = b + 256 * Nb.vt es n := by
    intro n
    induction n with
    | zero => simp [Nb.vt, Nb.pw, Nt.lb]
    | succ n ih =>
      rw [Nb.vt_succ, ih, Nb.vt_succ, Nb.pw_succ, show Nt.lb (b :: es) (n + 1) = Nt.lb es n by simp [Nt.lb]]
      grind
  show Nb.vt _ _ = _
  rw [show (b :: es).length = es.length + 1 by simp, h]; rfl
/-- a byte more behind -/
theorem twv_cons {es : List Int} {b : Int} (h : 1 ≤ es.length) : twv (b :: es) = twv es * 256 + b := by
  have e1 : Nt.lb (b :: es) ((b :: es).length - 1) = Nt.lb es (es.length - 1) := by
    obtain ⟨m, hm⟩ : ∃ m, es.length = m + 1 := ⟨es.length - 1, by omega⟩
    simp [Nt.lb, hm]
  unfold twv
  rw [e1, nb_val_cons', show (b :: es).length = es.length + 1 by simp, Nb.pw_succ]
  split <;> omega
theorem nb_ok_cons' {x : Int} {xs : List Int} (hx : 0 ≤ x ∧ x < 256) (h : Nb.Ok xs) : Nb.Ok (x :: xs) := by
  intro i
  cases i with
  | zero => simpa [Nt.lb] using hx
  | succ i => simpa [Nt.lb] using h i
theorem str_cons {es : List Int} {b : Int} : strOfNums (b :: es).reverse = strOfNums es.reverse ++ strOfNums [b] := by
  apply Go.WideShapes.bytes_inj
  simp [strOfNums]
/-- every text is bytes -/
theorem str_nums (s : ByteArray) : ∃ es, Nb.Ok es ∧ es.length = s.size ∧ s = strOfNums es.reverse := by
  refine ⟨(s.data.toList.map fun b => ((b.toNat : Nat) : Int)).reverse, ?_, by rw [List.length_reverse, List.length_map, Array.length_toList]; rfl, ?_⟩
  · refine nb_ok_rev (fun i => ?_)
    by_cases hi : i < (s.data.toList.map fun b => ((b.toNat : Nat) : Int)).length
    · have h : Nt.lb (s.data.toList.map fun b => ((b.toNat : Nat) : Int)) i = (s.data.toList.map fun b => ((b.toNat : Nat) : Int))[i] := by
        simp only [Nt.lb, List.getD_eq_getElem?_getD, List.getElem?_eq_getElem hi, Option.getD_some]
      rw [h, List.getElem_map]
      have := (s.data.toList[i]'(by simpa using hi)).toNat_lt
      omega
    · rw [Nt.lb_out (by omega)]; omega
  · apply Go.WideShapes.bytes_inj
    rw [List.reverse_reverse, strOfNums_data, List.map_map]
    refine (List.map_id _).symm.trans (List.map_congr_left (fun b _ => ?_))
    show b = UInt8.ofNat (((b.toNat : Nat) : Int).toNat)
    rw [Int.toNat_natCast, UInt8.ofNat_toNat]
theorem wnum_neg {B : Nat} {w : World} {ng : Bool} {m : Value} {n : Int} {k : Nat} (h : WNum B w (.agg #[.bool ng, m]) n k) : ng = decide (n < 0) := by
  obtain ⟨g, m', a, e, h1, h2, h3⟩ := h
  simp at e
  obtain ⟨rfl, rfl⟩ := e
  have h0 := h1.arg.nonneg
  cases ng with
  | true => have := h3 rfl; symm; apply decide_eq_true; rw [h2]; simp [wn]; omega
  | false => symm; apply decide_eq_false; rw [h2]; simp [wn]; omega
end Go.Proofs.YtmpdkeafbjibpaaDoor

/- WholeBytes: the walk (mk_wbytes.py) -/
namespace Go.Proofs.YtmpdkeafbjibpaaDoor
open Go.RowKit

theorem row_bb (w : World) (x : Int) : Row .u8 5 (w.alloc (.cells #[.int .u8 x] 5)) w.heap.size [x] := by
  unfold Row
  rw [heap_alloc_new]
  rfl

theorem beyond_b1 {w : World} {g : Nat} {a0 : Option Addr} {l0 c0 : Nat} (hg : g < w.heap.size) (j0 : l0 ≤ 70368744177664) (h0 : w.cell? ⟨g, 1, none⟩ = some (.slice a0 l0 c0)) :
    Calls Tryd.prog 6 #[.slice (some ⟨g, 0, none⟩) 1 1] w fun e w' => e = .returned (.bool (decide (1048576 < 1 + l0))) ∧ Below w.heap.size w w' := by
  refine (wbeyond_any (ls := [l0]) (by simp) (fun i => ?_) hg (fun i hi => ?_)).mono ?_
  · match i with
    | 0 => simpa using j0
    | i + 1 => simp
  · match i, hi with
    | 0, _ => exact ⟨_, _, h0⟩
  · rintro e w' ⟨rfl, hb⟩
    refine ⟨?_, hb⟩
    congr 2
    apply decide_eq_decide.2
    constructor
    · rintro ⟨i, hi, h⟩
      match i, hi, h with
      | 0, _, h => exact h
    · intro h
      exact ⟨0, by simp, h⟩

set_option maxRecDepth 100000 in
set_option maxHeartbeats 16000000 in
theorem wbytes_walk {w : World} {ng : Bool} {v : Value} {zs : List Int} (r : Reads .u32 w v zs) (o : Nt.Ok zs) (j : zs.length ≤ 70368744177664) (n : Int) (n0 : 0 ≤ n) (n1 : n < 256) (s : ByteArray) (hsm : s.size ≤ maxLen) (c : Int) (c0 : 0 ≤ c) (c1 : c < 256) :
    Calls Tryd.prog 5 #[.agg #[.bool ng, v, .int .u8 n, .string s, .int .u8 c]] w fun e w' => e = .returned (.bool true) ∧ Below w.heap.size w w' := by
  obtain ⟨ao, cap, rfl, ha1, ha2, ha3⟩ := r
  have KB : Below w.heap.size w (((w.alloc (.cells #[.bool ng, .slice ao zs.length cap, .int .u8 n, .string s, .int .u8 c] 44)).alloc (.cells #[.bool ng, .slice ao zs.length cap] 25)).alloc (.cells #[.bool ng, .slice ao zs.length cap] 25)).drew := (below_trans (below_trans (bel_alloc _ _) (bel_alloc _ _)) (bel_alloc _ _)).drew
  have z1 : (w.alloc (.cells #[.bool ng, .slice ao zs.length cap, .int .u8 n, .string s, .int .u8 c] 44)).heap.size = w.heap.size + 1 := by simp
  have z2 : ((w.alloc (.cells #[.bool ng, .slice ao zs.length cap, .int .u8 n, .string s, .int .u8 c] 44)).alloc (.cells #[.bool ng, .slice ao zs.length cap] 25)).heap.size = w.heap.size + 1 + 1 := by simp
  have C_x := ((cell2_new (w.alloc (.cells #[.bool ng, .slice ao zs.length cap, .int .u8 n, .string s, .int .u8 c] 44)) (.bool ng) (.slice ao zs.length cap) 25).alloc (.cells #[.bool ng, .slice ao zs.length cap] 25)).below ((Below.refl _ (((w.alloc (.cells #[.bool ng, .slice ao zs.length cap, .int .u8 n, .string s, .int .u8 c] 44)).alloc (.cells #[.bool ng, .slice ao zs.length cap] 25)).alloc (.cells #[.bool ng, .slice ao zs.length cap] 25))).drew)
  have C_l := (cell2_new ((w.alloc (.cells #[.bool ng, .slice ao zs.length cap, .int .u8 n, .string s, .int .u8 c] 44)).alloc (.cells #[.bool ng, .slice ao zs.length cap] 25)) (.bool ng) (.slice ao zs.length cap) 25).below ((Below.refl _ (((w.alloc (.cells #[.bool ng, .slice ao zs.length cap, .int .u8 n, .string s, .int .u8 c] 44)).alloc (.cells #[.bool ng, .slice ao zs.length cap] 25)).alloc (.cells #[.bool ng, .slice ao zs.length cap] 25))).drew)
  rw [z1] at C_x
  rw [z2] at C_l
  have Hbey := hide (beyond_b1 C_l.lt j C_l.c1)
  have HC_x := hide C_x
  clear C_x C_l z1 z2
  go_enter Tryd.func5, Tryd.ntmps5
  go_upto_region 1 with fail
  go_region
  go_wp2_with fail
  generalize (((w.alloc (.cells #[.bool ng, .slice ao zs.length cap, .int .u8 n, .string s, .int .u8 c] 44)).alloc (.cells #[.bool ng, .slice ao zs.length cap] 25)).alloc (.cells #[.bool ng, .slice ao zs.length cap] 25)).drew = W0 at *
  with_reducible refine Hbey.out.mono ?_
  rintro e w1 ⟨rfl, hb⟩
  replace KB := KB.trans (hb.mono KB.size)
  replace HC_x := hide (HC_x.out.below hb)
  by_cases hbig : 1048576 < 1 + zs.length
  · rw [decide_eq_true hbig]
    clear hbig hb Hbey
    go_wp2
    go_ret
    exact ⟨rfl, KB⟩
  rw [decide_eq_false hbig]
  have h_x : WArg w (.agg #[.bool ng, .slice ao zs.length cap]) (wn ng (Nt.val zs)) 1048576 := ⟨_, _, _, rfl, ⟨zs, ⟨ao, cap, rfl, ha1, ha2, ha3⟩, o, rfl, by omega⟩, rfl⟩
  clear ha1 ha2 ha3 o hbig hb Hbey
  generalize wn ng (Nt.val zs) = x at *
  replace h_x := h_x.below KB
  obtain ⟨N, hN⟩ : ∃ N : Nat, 1 + n = (N : Int) := ⟨(1 + n).toNat, by omega⟩
  have N1 : 1 ≤ N := by omega
  have N2 : N ≤ 256 := by omega
  obtain ⟨P, hP⟩ : ∃ P : Nat, (N : Int) + 1 = (P : Int) := ⟨N + 1, by omega⟩
  have P1 : P = N + 1 := by omega
  have HP := hide P1
  clear P1
  have p_x := HC_x.out.c0
  have q_x := HC_x.out.c1
  go_wp2_with fail
  with_reducible refine (twos_any h_x (by omega) N1 (by omega)).mono ?_
  clear p_x q_x
  rintro e w2 ⟨⟨t, ok, rfl, ht⟩, hb⟩
  replace KB := below_trans KB hb
  replace h_x := h_x.below hb
  replace HC_x := hide (HC_x.out.below hb)
  clear hb
  have HT := hide ht
  clear ht
  have p_x := HC_x.out.c0
  have q_x := HC_x.out.c1
  go_wp2_with fail
  with_reducible refine (twos_any h_x (by omega) (by have := HP.out; omega) (by have := HP.out; omega)).mono ?_
  clear p_x q_x
  rintro e w3 ⟨⟨u, more, rfl, hu⟩, hb⟩
  replace KB := below_trans KB hb
  replace h_x := h_x.below hb
  replace HC_x := hide (HC_x.out.below hb)
  clear hb
  have HU := hide hu
  clear hu
  go_upto_if 44 with fail
  have HNP := hide (And.intro hN (And.intro hP (And.intro N1 N2)))
  clear hN hP N1 N2
  go_cut [12] from 44 (fun s12 w' => Below w3.heap.size w3 w')
  case first =>
    as_aux_lemma =>
      have N1 := HNP.out.2.2.1
      have N2 := HNP.out.2.2.2
      rcases HT.out with ⟨rfl, hF, hS⟩ | ⟨rfl, hF, rfl⟩
      ·
        obtain ⟨es, ho, hs, hl, hv⟩ := twv_of N1 hF hS
        have htz : t.size = N := by rw [hs, strOfNums_size, List.length_reverse, hl]
        rcases HU.out with ⟨rfl, hF2, hS2⟩ | ⟨rfl, hF2, -⟩
        rotate_left
        · exact absurd (by rw [HP.out]; exact fits_more hF) hF2
        rw [HP.out] at hS2
        have eu := tstr_one hS2 (tstr_more hS)
        have HE := hide (And.intro ho (And.intro hs (And.intro hl hv)))
        clear hF hS hF2 hS2 ho hs hl hv HT HU
        by_cases hx : x < 0
        ·
          have hc : sgn x 0 = -1 := by unfold sgn; rw [if_pos (by omega)]
          rw [if_pos hx] at eu
          subst eu
          have Hc := hide hc
          clear hc
          go_upto_region 9 with fail
          have K : Below w3.heap.size w3 w3.drew := (Below.refl _ _).drew
          have p_x := HC_x.out.c0
          have q_x := HC_x.out.c1
          go_region_held3 (fun w' => w'.cell? ⟨w.heap.size + 1, 0, none⟩ = some (.bool ng) ∧ w'.cell? ⟨w.heap.size + 1, 1, none⟩ = some (.slice ao zs.length cap))
            (first
              | with_reducible exact ⟨(HC_x.out.below K).c0, (HC_x.out.below K).c1⟩
              | go_keep)
            (first
              | (go_at_call 14; (with_reducible refine (wfrom_any (n := 0) (by omega) (by omega)).mono ?_); rintro e wn ⟨v_o, rfl, h_o, hb⟩; replace K := below_trans K hb; clear hb; obtain ⟨ng_o, ro_o, rl_o, rfl⟩ := h_o.told)
              | (go_at_call 16; (with_reducible refine (wcmp_told Hc.out (h_x.below K) h_o.arg (by omega) (by omega)).mono ?_); rintro e wn ⟨rfl, hb⟩; replace K := below_trans K hb; clear hb))
          clear p_x q_x h_o
          rename World => w4
          replace KB := below_trans KB K
          replace h_x := h_x.below K
          replace HC_x := hide (HC_x.out.below K)
          have K0 := K
          clear K
          have a1 : ¬ (9223372036854775807 < (⟨#[255]⟩ : ByteArray).size + N) := by have : (⟨#[255]⟩ : ByteArray).size = 1 := rfl; omega
          have a2 : ¬ (9223372036854775807 < 1 + N) := by omega
          have a3 := fun (w' : World) => run_string_add_sum (P := Tryd.prog) w' ⟨#[255]⟩ t (by have : (⟨#[255]⟩ : ByteArray).size = 1 := rfl; omega)
          go_upto_region 11 with fail
          have s0 : sgn x x = 0 := sgn_eq rfl
          have Hs0 := hide s0
          clear s0
          have K : Below w4.heap.size w4 w4.drew := (Below.refl _ _).drew
          have p_x := HC_x.out.c0
          have q_x := HC_x.out.c1
          go_region_held3 (fun w' => w'.cell? ⟨w.heap.size + 1, 0, none⟩ = some (.bool ng) ∧ w'.cell? ⟨w.heap.size + 1, 1, none⟩ = some (.slice ao zs.length cap))
            (first
              | with_reducible exact ⟨(HC_x.out.below K).c0, (HC_x.out.below K).c1⟩
              | go_keep)
            (first
              | (go_at_call 20; (with_reducible refine (fromtwos_any HE.out.1 HE.out.2.1 HE.out.2.2.1 (by omega)).mono ?_); rintro e wn ⟨v_f, rfl, h_f, hb⟩; replace K := below_trans K hb; clear hb; rw [HE.out.2.2.2] at h_f; obtain ⟨ng_f, ro_f, rl_f, rfl⟩ := h_f.told)
              | (go_at_call 16; (with_reducible refine (wcmp_told Hs0.out h_f.arg (h_x.below K) (by omega) (by omega)).mono ?_); rintro e wn ⟨rfl, hb⟩; replace K := below_trans K hb; clear hb))
          clear p_x q_x h_f
          all_goals go_wp2
          all_goals go_meet
          all_goals exact below_trans K0 K
        ·
          have hc : ¬ sgn x 0 < 0 := by unfold sgn; split <;> (try split) <;> omega
          rw [if_neg hx] at eu
          subst eu
          go_upto_region 9 with fail
          have K : Below w3.heap.size w3 w3.drew := (Below.refl _ _).drew
          have p_x := HC_x.out.c0
          have q_x := HC_x.out.c1
          go_region_held3 (fun w' => w'.cell? ⟨w.heap.size + 1, 0, none⟩ = some (.bool ng) ∧ w'.cell? ⟨w.heap.size + 1, 1, none⟩ = some (.slice ao zs.length cap))
            (first
              | with_reducible exact ⟨(HC_x.out.below K).c0, (HC_x.out.below K).c1⟩
              | go_keep)
            (first
              | (go_at_call 14; (with_reducible refine (wfrom_any (n := 0) (by omega) (by omega)).mono ?_); rintro e wn ⟨v_o, rfl, h_o, hb⟩; replace K := below_trans K hb; clear hb; obtain ⟨ng_o, ro_o, rl_o, rfl⟩ := h_o.told)
              | (go_at_call 16; (with_reducible refine (wcmp_any (h_x.below K) h_o.arg (by omega) (by omega)).mono ?_); rintro e wn ⟨rfl, hb⟩; replace K := below_trans K hb; clear hb))
          clear p_x q_x h_o
          rename World => w4
          replace KB := below_trans KB K
          replace h_x := h_x.below K
          replace HC_x := hide (HC_x.out.below K)
          have K0 := K
          clear K
          have a1 : ¬ (9223372036854775807 < (⟨#[0]⟩ : ByteArray).size + N) := by have : (⟨#[0]⟩ : ByteArray).size = 1 := rfl; omega
          have a2 : ¬ (9223372036854775807 < 1 + N) := by omega
          have a3 := fun (w' : World) => run_string_add_sum (P := Tryd.prog) w' ⟨#[0]⟩ t (by have : (⟨#[0]⟩ : ByteArray).size = 1 := rfl; omega)
          go_upto_region 11 with fail
          have s0 : sgn x x = 0 := sgn_eq rfl
          have Hs0 := hide s0
          clear s0
          have K : Below w4.heap.size w4 w4.drew := (Below.refl _ _).drew
          have p_x := HC_x.out.c0
          have q_x := HC_x.out.c1
          go_region_held3 (fun w' => w'.cell? ⟨w.heap.size + 1, 0, none⟩ = some (.bool ng) ∧ w'.cell? ⟨w.heap.size + 1, 1, none⟩ = some (.slice ao zs.length cap))
            (first
              | with_reducible exact ⟨(HC_x.out.below K).c0, (HC_x.out.below K).c1⟩
              | go_keep)
            (first
              | (go_at_call 20; (with_reducible refine (fromtwos_any HE.out.1 HE.out.2.1 HE.out.2.2.1 (by omega)).mono ?_); rintro e wn ⟨v_f, rfl, h_f, hb⟩; replace K := below_trans K hb; clear hb; rw [HE.out.2.2.2] at h_f; obtain ⟨ng_f, ro_f, rl_f, rfl⟩ := h_f.told)
              | (go_at_call 16; (with_reducible refine (wcmp_told Hs0.out h_f.arg (h_x.below K) (by omega) (by omega)).mono ?_); rintro e wn ⟨rfl, hb⟩; replace K := below_trans K hb; clear hb))
          clear p_x q_x h_f
          all_goals go_wp2
          all_goals go_meet
          all_goals exact below_trans K0 K
      ·
        go_wp2
        go_meet
        exact Below.refl _ _
  case rest =>
    have K := hcut
    clear hcut
    rename World => w5
    replace KB := below_trans KB K
    clear K h_x HC_x HT HU HNP HP
    by_cases z0 : s.size = 0
    · go_wp2_with fail
      with_reducible refine wlives_any.mono ?_
      rintro e w6 ⟨rfl, hb⟩
      go_wp2
      go_ret
      exact ⟨rfl, below_trans KB hb⟩
    have z0' : ¬ (s.size : Int) = 0 := by omega
    by_cases z1 : 4000 < s.size
    · have z1' : (4000 : Int) < (s.size : Int) := by omega
      go_wp2_with fail
      with_reducible refine wlives_any.mono ?_
      rintro e w6 ⟨rfl, hb⟩
      go_wp2
      go_ret
      exact ⟨rfl, below_trans KB hb⟩
    have z1' : ¬ (4000 : Int) < (s.size : Int) := by omega
    obtain ⟨es, ho, hl, hs⟩ := str_nums s
    have HE := hide (And.intro ho (And.intro hl hs))
    obtain ⟨tf, ts, tn⟩ := twv_told ho hl (by omega)
    rw [← hs] at ts
    have HTV := hide (And.intro tf (And.intro ts tn))
    clear ho hl hs tf ts tn
    go_wp2_with fail
    with_reducible refine (fromtwos_any HE.out.1 HE.out.2.2 HE.out.2.1 (by omega)).mono ?_
    rintro e w6 ⟨v_y, rfl, h_y, hb⟩
    obtain ⟨ng_y, ro_y, rl_y, rfl⟩ := h_y.told
    replace KB := below_trans KB hb
    clear hb
    replace h_y := h_y.mono (k' := 2000) (by omega)
    have hy := wnum_neg h_y
    have HY := hide hy
    clear hy
    have HX : Hid (twv es = twv es) := hide rfl
    go_upto_region 18 with fail
    have hb := bel_alloc w6 (.cells #[.bool ng_y, .slice ro_y rl_y rl_y] 25)
    have C_y := cell2_new w6 (.bool ng_y) (.slice ro_y rl_y rl_y) 25
    replace KB := below_trans KB hb
    replace h_y := h_y.below hb
    clear hb
    obtain ⟨b_y, eb⟩ : ∃ b, b = w6.heap.size := ⟨_, rfl⟩
    rw [← eb] at C_y ⊢
    clear eb
    generalize w6.alloc (.cells #[.bool ng_y, .slice ro_y rl_y rl_y] 25) = w7 at *
    have HC_y := hide C_y
    clear C_y
    have p_y := HC_y.out.c0
    have q_y := HC_y.out.c1
    go_wp2_with fail
    with_reducible refine (twos_any h_y.arg (by omega) (by omega) (by omega)).mono ?_
    clear p_y q_y
    rintro e w8 ⟨⟨t2, b2, rfl, ht2⟩, hb⟩
    replace KB := below_trans KB hb
    replace h_y := h_y.below hb
    replace HC_y := hide (HC_y.out.below hb)
    clear hb
    rcases ht2 with ⟨rfl, hF, hS⟩ | ⟨rfl, hF, -⟩
    rotate_left
    · exact absurd HTV.out.1 hF
    obtain rfl : s = t2 := tstr_one HTV.out.2.1 hS
    clear hF hS
    have cw : IntKind.i64.wrap c = c := by rw [IntKind.wrap_i64]; omega
    go_upto_region 19 with fail
    go_cut [16] from 91 (fun s16 w' => ∃ b_z ng_z ro_z rl_z, s16 = .pointer (some ⟨b_z, 0, none⟩) ∧ Cell2 w' b_z (.bool ng_z) (.slice ro_z rl_z rl_z) ∧ WNum 0 w' (.agg #[.bool ng_z, .slice ro_z rl_z rl_z]) (twv es * 256 + c) (max (2000 + 2) 2 + 1) ∧ Below w8.heap.size w8 w')
    case first =>
      as_aux_lemma =>
        refine wpInvA (J := fun a0 up a w' => ∃ s91 s92 s93 s94 s95 s96 s97 s16, a = ((((((((a0.put (some 91) s91).put (some 92) s92).put (some 93) s93).put (some 94) s94).put (some 95) s95).put (some 96) s96).put (some 97) s97).put (some 16) s16) ∧ Below w8.heap.size w8 w' ∧ LdS (up 0) s91 (.agg #[.bool ng_y, .slice ro_y rl_y rl_y]) ∧ ReS (up 1) w' s92 (256) 2 ∧ ReS (up 2) w' s93 (twv es * 256) (2000 + 2) ∧ LdS (up 3) s94 (.int .u8 c) ∧ LdS (up 4) s95 (.int .i64 c) ∧ ReS (up 5) w' s96 (c) 2 ∧ ReS (up 6) w' s97 (twv es * 256 + c) (max (2000 + 2) 2 + 1) ∧ AlS (up 7) w8.heap.size w' s16 ∧ StS (up 8) (up 7) (up 6) w' s16 s97) (by kernel_rfl) (by kernel_rfl) ?_ ?_ ?_
        · refine ⟨?q1_91, ?q1_92, ?q1_93, ?q1_94, ?q1_95, ?q1_96, ?q1_97, ?q1_16, ?q1, (Below.refl _ _).drew, fun q => (by cases q), fun q => (by cases q), fun q => (by cases q), fun q => (by cases q), fun q => (by cases q), fun q => (by cases q), fun q => (by cases q), fun q => (by cases q), fun q => (by cases q)⟩
          case q1 =>
            simp only [Act.put, List.setIfInBounds_toArray, List.set_cons_zero, List.set_cons_succ]
            rfl
        · rintro up a wx i o ho ⟨s91, s92, s93, s94, s95, s96, s97, s16, rfl, KW, o0, o1, o2, o3, o4, o5, o6, o7, o8⟩ hu hm K hK
          simp only [Act.put, List.setIfInBounds_toArray, List.set_cons_zero, List.set_cons_succ]
          have hi : i < 9 := (Array.getElem?_eq_some_iff.1 ho).1
          match i, hi with
          | 0, _ =>
            cases ho
            rw [if_pos (by rfl)]
            have p := (HC_y.out.below KW).c0
            have q := (HC_y.out.below KW).c1
            go_simp
            refine hK (fun k => if k = 0 then true else up k) _ _ rfl (fun k hk => if_neg hk) (⟨_, s92, s93, s94, s95, s96, s97, s16, ?_, KW, (fun _ => rfl : _), (o1 : _), (o2 : _), (o3 : _), (o4 : _), (o5 : _), (o6 : _), (o7 : _), (o8 : _)⟩)
            simp only [Act.put, List.setIfInBounds_toArray, List.set_cons_zero, List.set_cons_succ]
          | 1, _ =>
            cases ho
            rw [if_pos (by rfl)]
            simp [MetB, Region.binds] at hm
            go_simp
            go_at_call 14
            with_reducible refine (wfrom_any (n := 256) (by omega) (by omega)).mono ?_
            rintro e wn ⟨v_t, rfl, t, hb⟩
            have tt := t.told
            refine hK (fun k => if k = 1 then true else up k) _ _ rfl (fun k hk => if_neg hk) (⟨s91, _, s93, s94, s95, s96, s97, s16, ?_, below_trans KW hb, (o0 : _), (fun _ => ⟨tt, t.low (Nat.zero_le _)⟩ : _), (o2.below hb : _), (o3 : _), (o4 : _), (o5.below hb : _), (o6.below hb : _), (o7.below hb : _), (o8.below hb : _)⟩)
            simp only [Act.put, List.setIfInBounds_toArray, List.set_cons_zero, List.set_cons_succ]
          | 2, _ =>
            cases ho
            rw [if_pos (by rfl)]
            simp [MetB, Region.binds] at hm
            obtain rfl := o0 (by simp [hm])
            obtain ⟨⟨ng_92, ro_92, rl_92, rfl⟩, r92⟩ := o1 (by simp [hm])
            go_simp
            go_at_call 9
            with_reducible refine (wmul_any (h_y.arg.below KW) (by omega) r92.arg (by omega)).mono ?_
            rintro e wn ⟨v_t, rfl, t, hb⟩
            have tt := t.told
            refine hK (fun k => if k = 2 then true else up k) _ _ rfl (fun k hk => if_neg hk) (⟨_, _, _, s94, s95, s96, s97, s16, ?_, below_trans KW hb, (o0 : _), (o1.below hb : _), (fun _ => ⟨tt, t.low (Nat.zero_le _)⟩ : _), (o3 : _), (o4 : _), (o5.below hb : _), (o6.below hb : _), (o7.below hb : _), (o8.below hb : _)⟩)
            simp only [Act.put, List.setIfInBounds_toArray, List.set_cons_zero, List.set_cons_succ]
          | 3, _ =>
            cases ho
            rw [if_pos (by rfl)]
            go_simp
            refine hK (fun k => if k = 3 then true else up k) _ _ rfl (fun k hk => if_neg hk) (⟨s91, s92, s93, _, s95, s96, s97, s16, ?_, KW, (o0 : _), (o1 : _), (o2 : _), (fun _ => rfl : _), (o4 : _), (o5 : _), (o6 : _), (o7 : _), (o8 : _)⟩)
            simp only [Act.put, List.setIfInBounds_toArray, List.set_cons_zero, List.set_cons_succ]
          | 4, _ =>
            cases ho
            rw [if_pos (by rfl)]
            simp [MetB, Region.binds] at hm
            obtain rfl := o3 (by simp [hm])
            go_simp
            refine hK (fun k => if k = 4 then true else up k) _ _ rfl (fun k hk => if_neg hk) (⟨s91, s92, s93, _, _, s96, s97, s16, ?_, KW, (o0 : _), (o1 : _), (o2 : _), (o3 : _), (fun _ => rfl : _), (o5 : _), (o6 : _), (o7 : _), (o8 : _)⟩)
            simp only [Act.put, List.setIfInBounds_toArray, List.set_cons_zero, List.set_cons_succ]
          | 5, _ =>
            cases ho
            rw [if_pos (by rfl)]
            simp [MetB, Region.binds] at hm
            obtain rfl := o4 (by simp [hm])
            go_simp
            go_at_call 14
            with_reducible refine (wfrom_any (n := c) (by omega) (by omega)).mono ?_
            rintro e wn ⟨v_t, rfl, t, hb⟩
            have tt := t.told
            refine hK (fun k => if k = 5 then true else up k) _ _ rfl (fun k hk => if_neg hk) (⟨s91, s92, s93, s94, _, _, s97, s16, ?_, below_trans KW hb, (o0 : _), (o1.below hb : _), (o2.below hb : _), (o3 : _), (o4 : _), (fun _ => ⟨tt, t.low (Nat.zero_le _)⟩ : _), (o6.below hb : _), (o7.below hb : _), (o8.below hb : _)⟩)
            simp only [Act.put, List.setIfInBounds_toArray, List.set_cons_zero, List.set_cons_succ]
          | 6, _ =>
            cases ho
            rw [if_pos (by rfl)]
            simp [MetB, Region.binds] at hm
            obtain ⟨⟨ng_93, ro_93, rl_93, rfl⟩, r93⟩ := o2 (by simp [hm])
            obtain ⟨⟨ng_96, ro_96, rl_96, rfl⟩, r96⟩ := o5 (by simp [hm])
            go_simp
            go_at_call 8
            with_reducible refine (wadd_any r93.arg (by omega) r96.arg (by omega)).mono ?_
            rintro e wn ⟨v_t, rfl, t, hb⟩
            have tt := t.told
            refine hK (fun k => if k = 6 then true else up k) _ _ rfl (fun k hk => if_neg hk) (⟨s91, s92, _, s94, s95, _, _, s16, ?_, below_trans KW hb, (o0 : _), (o1.below hb : _), (o2.below hb : _), (o3 : _), (o4 : _), (o5.below hb : _), (fun _ => ⟨tt, t.low (Nat.zero_le _)⟩ : _), (o7.below hb : _), (o8.off (Or.inr hu) : _)⟩)
            simp only [Act.put, List.setIfInBounds_toArray, List.set_cons_zero, List.set_cons_succ]
          | 7, _ =>
            cases ho
            rw [if_pos (by rfl)]
            go_simp
            refine hK (fun k => if k = 7 then true else up k) _ _ rfl (fun k hk => if_neg hk) (⟨s91, s92, s93, s94, s95, s96, s97, _, ?_, below_trans KW (bel_alloc _ _), (o0 : _), (o1.below (bel_alloc _ _) : _), (o2.below (bel_alloc _ _) : _), (o3 : _), (o4 : _), (o5.below (bel_alloc _ _) : _), (o6.below (bel_alloc _ _) : _), (AlS.new KW.size _ : _), (o8.off (Or.inl hu) : _)⟩)
            simp only [Act.put, List.setIfInBounds_toArray, List.set_cons_zero, List.set_cons_succ]
          | 8, _ =>
            cases ho
            rw [if_pos (by rfl)]
            simp [MetB, Region.binds] at hm
            obtain ⟨c, z, u, rfl, hc, Z⟩ := o7 (by simp [hm])
            obtain ⟨⟨ng, ro, rl, rfl⟩, t⟩ := o6 (by simp [hm])
            have f0 := Z.f0
            have f1 := Z.f1
            have c0 := Z.c0
            have c1 := Z.c1
            go_simp
            refine hK (fun k => if k = 8 then true else up k) _ _ rfl (fun k hk => if_neg hk) (⟨s91, s92, s93, s94, s95, s96, _, _, ?_, below_put2 KW hc _ _, (o0 : _), (o1.putc Z _ _ : _), (o2.putc Z _ _ : _), (o3 : _), (o4 : _), (o5.putc Z _ _ : _), (o6.putc Z _ _ : _), (o7.putc Z _ _ : _), (fun _ => ⟨by simp [hm], by simp [hm], c, _, _, rfl, rfl, Z.put _ _⟩ : _)⟩)
            simp only [Act.put, List.setIfInBounds_toArray, List.set_cons_zero, List.set_cons_succ]
        · rintro up a wx ⟨s91, s92, s93, s94, s95, s96, s97, s16, rfl, KW, o0, o1, o2, o3, o4, o5, o6, o7, o8⟩ hall
          simp only [Act.put, List.setIfInBounds_toArray, List.set_cons_zero, List.set_cons_succ]
          obtain ⟨-, -, b_z, x_z, y_z, rfl, e_z, C_z⟩ := o8 (hall 8 (by decide))
          obtain ⟨⟨ng_z, ro_z, rl_z, rfl⟩, t_z⟩ := o6 (hall 6 (by decide))
          cases e_z
          go_wp2_with fail
          go_meet
          case rel => exact ⟨_, _, _, _, rfl, C_z, t_z, KW⟩
    case rest =>
    obtain ⟨b_z, ng_z, ro_z, rl_z, rfl, C_z, h_z, K⟩ := hcut
    rename World => w9
    replace KB := below_trans KB K
    replace h_y := h_y.below K
    replace HC_y := hide (HC_y.out.below K)
    clear K
    have HC_z := hide C_z
    clear C_z
    clear cw
    obtain ⟨u, hue⟩ : ∃ u, u = strOfNums [c] := ⟨_, rfl⟩
    have hu1 : u.size = 1 := by rw [hue, strOfNums_size]; rfl
    have hsu : s ++ u = strOfNums (c :: es).reverse := by rw [str_cons, ← HE.out.2.2, hue]
    have hco : Nb.Ok (c :: es) := fun i => by
      cases i with
      | zero => exact ⟨c0, c1⟩
      | succ i => exact HE.out.1 i
    have hl1 : (c :: es).length = s.size + 1 := by rw [List.length_cons, HE.out.2.1]
    have htw : twv (c :: es) = twv es * 256 + c := twv_cons (by rw [HE.out.2.1]; omega)
    have HQ := hide (And.intro hco (And.intro hsu (And.intro hl1 htw)))
    have HCV := hide (show ∀ (W W' : World), Below (W.alloc (.cells #[.int .u8 c] 5)).heap.size (W.alloc (.cells #[.int .u8 c] 5)) W' → (convert 48 9 (.slice (some ⟨W.heap.size, 0, none⟩) 1 1)).run Tryd.prog W' = .ok (.string u) W' from fun W W' hb => by rw [hue]; exact row_string (cap := 1) ((row_bb W c).keeps hb))
    clear hco hsu hl1 htw hue
    have hp : 0 < s.size := by omega
    have hp2 : (0 : Int) < (s.size : Int) := by omega
    have hix : (((s[0]'hp).toNat : Nat) : Int) = Nt.lb es (s.size - 1) := by
      have h0 : 0 < es.length := by rw [HE.out.2.1]; omega
      have hz := HE.out.2.2
      have hl := HE.out.2.1
      rw [← hl]
      clear hl z0 z0' z1 z1' hp2 hu1 HQ HCV
      generalize hgs : s = s' at *
      subst hz
      rw [strOfNums_at hp (by rw [lb_reverse h0]; exact HE.out.1 _), lb_reverse h0, Nat.sub_zero]
    obtain ⟨y0, hy0⟩ : ∃ y, y = Nt.lb es (s.size - 1) := ⟨_, rfl⟩
    rw [← hy0] at hix
    have hyg : (ng_y == decide (128 ≤ y0)) = true := by
      rw [HY.out, hy0, beq_iff_eq]
      exact decide_eq_decide.2 HTV.out.2.2
    have a1 : ¬ (9223372036854775807 < s.size + u.size) := by omega
    have a3 := fun (w' : World) => run_string_add_sum (P := Tryd.prog) w' s u (by omega)
    have s0 : sgn (twv es * 256 + c) (twv es * 256 + c) = 0 := sgn_eq rfl
    have Hs0 := hide s0
    clear s0 hy0
    go_upto_region 20 with fail
    go_cut [2] from 98 (fun s2 w' => s2 = .bool true ∧ Below w9.heap.size w9 w')
    case first =>
      as_aux_lemma =>
        have CC : ∀ uu : World, Below w9.heap.size w9 uu → uu.cell? ⟨b_y, 0, none⟩ = some (.bool ng_y) ∧ uu.cell? ⟨b_y, 1, none⟩ = some (.slice ro_y rl_y rl_y) ∧ uu.cell? ⟨b_z, 0, none⟩ = some (.bool ng_z) ∧ uu.cell? ⟨b_z, 1, none⟩ = some (.slice ro_z rl_z rl_z) := fun uu hu => ⟨(HC_y.out.below hu).c0, (HC_y.out.below hu).c1, (HC_z.out.below hu).c0, (HC_z.out.below hu).c1⟩
        have K : Below w9.heap.size w9 w9.drew := (Below.refl _ _).drew
        have HC0 := CC _ K
        refine wpHl.region0 (C := fun uu => uu.cell? ⟨b_y, 0, none⟩ = some (.bool ng_y) ∧ uu.cell? ⟨b_y, 1, none⟩ = some (.slice ro_y rl_y rl_y) ∧ uu.cell? ⟨b_z, 0, none⟩ = some (.bool ng_z) ∧ uu.cell? ⟨b_z, 1, none⟩ = some (.slice ro_z rl_z rl_z)) (by kernel_rfl) (by kernel_rfl) (fun HS => ?_)
        refine wpHl.tk0 (i := 0) (d := some 98) (v := .bool true) rfl HS (by as_aux_lemma => kernel_rfl) rfl (fun _ _ _ h => h) (Or.inl ⟨by rfl, ?_⟩) HC0 ?_
        · intro uu hC
          go_simp
        simp only [Act.put, List.setIfInBounds_toArray, List.set_cons_zero, List.set_cons_succ]
        refine wpHl.tk0 (i := 1) (d := some 99) (v := .bool true) rfl HS (by as_aux_lemma => kernel_rfl) rfl (fun _ _ _ h => h) (Or.inl ⟨by rfl, ?_⟩) HC0 ?_
        · intro uu hC
          go_simp
        simp only [Act.put, List.setIfInBounds_toArray, List.set_cons_zero, List.set_cons_succ]
        refine wpHl.tk0 (i := 2) (d := some 100) (v := .string s) rfl HS (by as_aux_lemma => kernel_rfl) rfl (fun _ _ _ h => h) (Or.inl ⟨by rfl, ?_⟩) HC0 ?_
        · intro uu hC
          go_simp
        simp only [Act.put, List.setIfInBounds_toArray, List.set_cons_zero, List.set_cons_succ]
        refine wpHl.tk0 (i := 3) (d := some 101) (v := .string s) rfl HS (by as_aux_lemma => kernel_rfl) rfl (fun _ _ _ h => h) (Or.inl ⟨by rfl, ?_⟩) HC0 ?_
        · intro uu hC
          go_simp
        simp only [Act.put, List.setIfInBounds_toArray, List.set_cons_zero, List.set_cons_succ]
        refine wpHl.tk0 (i := 4) (d := some 102) (v := .bool true) rfl HS (by as_aux_lemma => kernel_rfl) rfl (fun _ _ _ h => h) (Or.inl ⟨by rfl, ?_⟩) HC0 ?_
        · intro uu hC
          go_simp
        simp only [Act.put, List.setIfInBounds_toArray, List.set_cons_zero, List.set_cons_succ]
        refine wpHl.tk0 (i := 5) (d := some 103) (v := .bool true) rfl HS (by as_aux_lemma => kernel_rfl) rfl (fun _ _ _ h => h) (Or.inl ⟨by rfl, ?_⟩) HC0 ?_
        · intro uu hC
          go_simp
        simp only [Act.put, List.setIfInBounds_toArray, List.set_cons_zero, List.set_cons_succ]
        refine wpHl.tk0 (i := 6) (d := some 104) (v := .bool true) rfl HS (by as_aux_lemma => kernel_rfl) rfl (fun _ _ _ h => h) (Or.inl ⟨by rfl, ?_⟩) HC0 ?_
        · intro uu hC
          go_simp
        simp only [Act.put, List.setIfInBounds_toArray, List.set_cons_zero, List.set_cons_succ]
        refine wpHl.tk0 (i := 7) (d := some 105) (v := .agg #[.bool ng_y, .slice ro_y rl_y rl_y]) rfl HS (by as_aux_lemma => kernel_rfl) rfl (fun _ _ _ h => h) (Or.inl ⟨by rfl, ?_⟩) HC0 ?_
        · intro uu hC
          obtain ⟨z0, z1, z2, z3⟩ := hC
          go_simp
        simp only [Act.put, List.setIfInBounds_toArray, List.set_cons_zero, List.set_cons_succ]
        refine wpHl.one (i := 8) (by as_aux_lemma => kernel_rfl) rfl (fun K1 hK1 => ?_)
        rw [if_pos (by rfl)]
        refine wp_call_of (f := 10) (args := #[.agg #[.bool ng_y, .slice ro_y rl_y rl_y]]) (by kernel_rfl) ?_
        with_reducible refine (normal_any (h_y.below K)).mono ?_
        rintro e wn ⟨rfl, hb⟩
        replace K := below_trans K hb
        try replace h_f := h_f.below hb
        clear HC0
        have HC0 := CC _ K
        refine hK1 (Act.put _ (some 106) _) _ ⟨fun _ => HC0, ?_⟩
        clear hK1 K1 hb
        try simp only [Act.put, List.setIfInBounds_toArray, List.set_cons_zero, List.set_cons_succ]
        refine wpHl.tk0 (i := 9) (d := some 107) (v := .bool true) rfl HS (by as_aux_lemma => kernel_rfl) rfl (fun _ _ _ h => h) (Or.inl ⟨by rfl, ?_⟩) HC0 ?_
        · intro uu hC
          go_simp
        simp only [Act.put, List.setIfInBounds_toArray, List.set_cons_zero, List.set_cons_succ]
        refine wpHl.tk0 (i := 10) (d := some 108) (v := .bool true) rfl HS (by as_aux_lemma => kernel_rfl) rfl (fun _ _ _ h => h) (Or.inl ⟨by rfl, ?_⟩) HC0 ?_
        · intro uu hC
          go_simp
        simp only [Act.put, List.setIfInBounds_toArray, List.set_cons_zero, List.set_cons_succ]
        refine wpHl.tk0 (i := 11) (d := some 109) (v := .string s) rfl HS (by as_aux_lemma => kernel_rfl) rfl (fun _ _ _ h => h) (Or.inl ⟨by rfl, ?_⟩) HC0 ?_
        · intro uu hC
          go_simp
        simp only [Act.put, List.setIfInBounds_toArray, List.set_cons_zero, List.set_cons_succ]
        refine wpHl.tk0 (i := 12) (d := some 110) (v := .int .u8 c) rfl HS (by as_aux_lemma => kernel_rfl) rfl (fun _ _ _ h => h) (Or.inl ⟨by rfl, ?_⟩) HC0 ?_
        · intro uu hC
          go_simp
        simp only [Act.put, List.setIfInBounds_toArray, List.set_cons_zero, List.set_cons_succ]
        refine wpHl.tk0 (i := 17) (d := some 115) (v := .agg #[.bool ng_z, .slice ro_z rl_z rl_z]) rfl HS (by as_aux_lemma => kernel_rfl) rfl (fun _ _ _ h => h) (Or.inl ⟨by rfl, ?_⟩) HC0 ?_
        · intro uu hC
          obtain ⟨z0, z1, z2, z3⟩ := hC
          go_simp
        simp only [Act.put, List.setIfInBounds_toArray, List.set_cons_zero, List.set_cons_succ]
        refine wpHl.one (i := 13) (by as_aux_lemma => kernel_rfl) rfl (fun K1 hK1 => ?_)
        rw [if_pos (by rfl)]
        go_simp
        have hb := bel_alloc wn (.cells #[.int .u8 c] 5)
        replace K := below_trans K hb
        have hcv := HCV.out wn _ (Below.refl _ _)
        clear hb
        clear HC0
        have HC0 := CC _ K
        refine hK1 _ _ ⟨fun _ => HC0, ?_⟩
        clear hK1 K1
        try simp only [Act.put, List.setIfInBounds_toArray, List.set_cons_zero, List.set_cons_succ]
        refine wpHl.one (i := 14) (by as_aux_lemma => kernel_rfl) rfl (fun K1 hK1 => ?_)
        rw [if_pos (by rfl)]
        go_simp
        clear hcv
        clear HC0
        have HC0 := CC _ K
        refine hK1 _ _ ⟨fun _ => HC0, ?_⟩
        clear hK1 K1
        try simp only [Act.put, List.setIfInBounds_toArray, List.set_cons_zero, List.set_cons_succ]
        refine wpHl.tk0 (i := 15) (d := some 113) (v := .string (s ++ u)) rfl HS (by as_aux_lemma => kernel_rfl) rfl (fun _ _ _ h => h) (Or.inl ⟨by rfl, ?_⟩) HC0 ?_
        · intro uu hC
          go_simp
        simp only [Act.put, List.setIfInBounds_toArray, List.set_cons_zero, List.set_cons_succ]
        refine wpHl.one (i := 16) (by as_aux_lemma => kernel_rfl) rfl (fun K1 hK1 => ?_)
        rw [if_pos (by rfl)]
        refine wp_call_of (f := 20) (args := #[.string (s ++ u)]) (by kernel_rfl) ?_
        with_reducible refine (fromtwos_any HQ.out.1 HQ.out.2.1 HQ.out.2.2.1 (by omega)).mono ?_
        rintro e wn ⟨v_f, rfl, h_f, hb⟩
        replace K := below_trans K hb
        try replace h_f := h_f.below hb
        rw [HQ.out.2.2.2] at h_f
        obtain ⟨ng_f, ro_f, rl_f, rfl⟩ := h_f.told
        clear HC0
        have HC0 := CC _ K
        refine hK1 (Act.put _ (some 114) _) _ ⟨fun _ => HC0, ?_⟩
        clear hK1 K1 hb
        try simp only [Act.put, List.setIfInBounds_toArray, List.set_cons_zero, List.set_cons_succ]
        refine wpHl.one (i := 18) (by as_aux_lemma => kernel_rfl) rfl (fun K1 hK1 => ?_)
        rw [if_pos (by rfl)]
        refine wp_call_of (f := 16) (args := #[.agg #[.bool ng_f, .slice ro_f rl_f rl_f], .agg #[.bool ng_z, .slice ro_z rl_z rl_z]]) (by kernel_rfl) ?_
        with_reducible refine (wcmp_told Hs0.out h_f.arg (h_z.arg.below K) (by omega) (by omega)).mono ?_
        rintro e wn ⟨rfl, hb⟩
        replace K := below_trans K hb
        try replace h_f := h_f.below hb
        clear HC0
        have HC0 := CC _ K
        refine hK1 (Act.put _ (some 116) _) _ ⟨fun _ => HC0, ?_⟩
        clear hK1 K1 hb
        try simp only [Act.put, List.setIfInBounds_toArray, List.set_cons_zero, List.set_cons_succ]
        refine wpHl.tk0 (i := 19) (d := some 117) (v := .bool true) rfl HS (by as_aux_lemma => kernel_rfl) rfl (fun _ _ _ h => h) (Or.inl ⟨by rfl, ?_⟩) HC0 ?_
        · intro uu hC
          go_simp
        simp only [Act.put, List.setIfInBounds_toArray, List.set_cons_zero, List.set_cons_succ]
        refine wpHl.tk0 (i := 20) (d := some 118) (v := .bool true) rfl HS (by as_aux_lemma => kernel_rfl) rfl (fun _ _ _ h => h) (Or.inl ⟨by rfl, ?_⟩) HC0 ?_
        · intro uu hC
          go_simp
        simp only [Act.put, List.setIfInBounds_toArray, List.set_cons_zero, List.set_cons_succ]
        refine wpHl.tk0 (i := 21) (d := some 119) (v := .bool true) rfl HS (by as_aux_lemma => kernel_rfl) rfl (fun _ _ _ h => h) (Or.inl ⟨by rfl, ?_⟩) HC0 ?_
        · intro uu hC
          go_simp
        simp only [Act.put, List.setIfInBounds_toArray, List.set_cons_zero, List.set_cons_succ]
        refine wpHl.tk0 (i := 22) (d := some 120) (v := .pointer (some ⟨b_y, 0, none⟩)) rfl HS (by as_aux_lemma => kernel_rfl) rfl (fun _ _ _ h => h) (Or.inl ⟨by rfl, ?_⟩) HC0 ?_
        · intro uu hC
          go_simp
        simp only [Act.put, List.setIfInBounds_toArray, List.set_cons_zero, List.set_cons_succ]
        refine wpHl.tk0 (i := 23) (d := some 121) (v := .bool ng_y) rfl HS (by as_aux_lemma => kernel_rfl) rfl (fun _ _ _ h => h) (Or.inl ⟨by rfl, ?_⟩) HC0 ?_
        · intro uu hC
          obtain ⟨z0, z1, z2, z3⟩ := hC
          go_simp
        simp only [Act.put, List.setIfInBounds_toArray, List.set_cons_zero, List.set_cons_succ]
        refine wpHl.tk0 (i := 24) (d := some 122) (v := .string s) rfl HS (by as_aux_lemma => kernel_rfl) rfl (fun _ _ _ h => h) (Or.inl ⟨by rfl, ?_⟩) HC0 ?_
        · intro uu hC
          go_simp
        simp only [Act.put, List.setIfInBounds_toArray, List.set_cons_zero, List.set_cons_succ]
        refine wpHl.tk0 (i := 25) (d := some 123) (v := .int .u8 y0) rfl HS (by as_aux_lemma => kernel_rfl) rfl (fun _ _ _ h => h) (Or.inl ⟨by rfl, ?_⟩) HC0 ?_
        · intro uu hC
          go_simp
        simp only [Act.put, List.setIfInBounds_toArray, List.set_cons_zero, List.set_cons_succ]
        refine wpHl.tk0 (i := 26) (d := some 124) (v := .bool (decide (128 ≤ y0))) rfl HS (by as_aux_lemma => kernel_rfl) rfl (fun _ _ _ h => h) (Or.inl ⟨by rfl, ?_⟩) HC0 ?_
        · intro uu hC
          go_simp
        simp only [Act.put, List.setIfInBounds_toArray, List.set_cons_zero, List.set_cons_succ]
        refine wpHl.tk0 (i := 27) (d := some 125) (v := .bool true) rfl HS (by as_aux_lemma => kernel_rfl) rfl (fun _ _ _ h => h) (Or.inl ⟨by rfl, ?_⟩) HC0 ?_
        · intro uu hC
          go_simp
        simp only [Act.put, List.setIfInBounds_toArray, List.set_cons_zero, List.set_cons_succ]
        refine wpHl.tk0 (i := 28) (d := some 126) (v := .bool true) rfl HS (by as_aux_lemma => kernel_rfl) rfl (fun _ _ _ h => h) (Or.inl ⟨by rfl, ?_⟩) HC0 ?_
        · intro uu hC
          go_simp
        simp only [Act.put, List.setIfInBounds_toArray, List.set_cons_zero, List.set_cons_succ]
        refine wpHl.tk0 (i := 29) (d := some 127) (v := .bool true) rfl HS (by as_aux_lemma => kernel_rfl) rfl (fun _ _ _ h => h) (Or.inl ⟨by rfl, ?_⟩) HC0 ?_
        · intro uu hC
          go_simp
        simp only [Act.put, List.setIfInBounds_toArray, List.set_cons_zero, List.set_cons_succ]
        refine wpHl.one (i := 30) (by as_aux_lemma => kernel_rfl) rfl (fun K1 hK1 => ?_)
        rw [if_pos (by rfl)]
        refine wp_call_of (f := 15) (args := #[]) (by kernel_rfl) ?_
        with_reducible refine (wlives_any).mono ?_
        rintro e wn ⟨rfl, hb⟩
        replace K := below_trans K hb
        try replace h_f := h_f.below hb
        clear HC0
        have HC0 := CC _ K
        refine hK1 (Act.put _ (some 128) _) _ ⟨fun _ => HC0, ?_⟩
        clear hK1 K1 hb
        try simp only [Act.put, List.setIfInBounds_toArray, List.set_cons_zero, List.set_cons_succ]
        refine wpHl.tk0 (i := 31) (d := some 129) (v := .bool true) rfl HS (by as_aux_lemma => kernel_rfl) rfl (fun _ _ _ h => h) (Or.inl ⟨by rfl, ?_⟩) HC0 ?_
        · intro uu hC
          go_simp
        simp only [Act.put, List.setIfInBounds_toArray, List.set_cons_zero, List.set_cons_succ]
        refine wpHl.tk0 (i := 32) (d := some 2) (v := .bool true) rfl HS (by as_aux_lemma => kernel_rfl) rfl (fun _ _ _ h => h) (Or.inl ⟨by rfl, ?_⟩) HC0 ?_
        · intro uu hC
          go_simp
        simp only [Act.put, List.setIfInBounds_toArray, List.set_cons_zero, List.set_cons_succ]
        refine wpHl.done (by as_aux_lemma => kernel_rfl) ?_ _
        clear CC HC0 HS
        have K9 := hide K
        clear K
        go_wp2_with fail
        go_meet
        case rel => exact ⟨rfl, K9.out⟩
    case rest =>
    obtain ⟨rfl, K⟩ := hcut
    replace KB := below_trans KB K
    clear K
    go_wp2
    go_ret
    exact ⟨rfl, KB⟩

end Go.Proofs.YtmpdkeafbjibpaaDoor
