/- whole: Show and Read at fixed numbers; cruciblelaw03.lives -/
import Derived.Test.YtmpdkeafbjibpaaDoorWholeQ
import Derived.Test.YtmpdkeafbjibpaaDoorTwos
import Derived.Test.YtmpdkeafbjibpaaDoorDigD
import Derived.Test.YtmpdkeafbjibpaaDoorWKit
namespace Go.Proofs.YtmpdkeafbjibpaaDoor
open Go.RowKit

set_option maxRecDepth 20000 in
set_option maxHeartbeats 2000000 in
theorem show_d3 {w : World} {v : Value} {k : Nat} (h : WArg w v (-3) k) (hk : k ≤ 1099511627776) :
    Calls Tryd.prog 31 #[v] w fun e w' => e = .returned (.string ⟨#[45, 51]⟩) ∧ Below w.heap.size w w' := by
  obtain ⟨neg, m, a, rfl, ha, hn⟩ := h
  have A1 := ha
  have N1 := ha.nonneg
  obtain ⟨zs, ⟨ao, cap, rfl, -⟩, -⟩ := ha
  have hna : neg = true ∧ a = 3 := by unfold wn at hn; cases neg <;> simp at hn <;> constructor <;> first | rfl | omega
  obtain ⟨rfl, rfl⟩ := hna
  have K1 : Below w.heap.size w (w.alloc (.cells #[.bool true, .slice ao zs.length cap] 25)) := bel_alloc _ _
  have C1 := cell2_new w (.bool true) (.slice ao zs.length cap) 25
  have HC := hide C1
  have HN := hide hn
  clear C1 hn
  replace A1 := A1.below K1
  have hsg : sgn (-3) 0 = -1 := by decide
  have hap : (⟨#[45]⟩ : ByteArray) ++ ⟨#[51]⟩ = ⟨#[45, 51]⟩ := rfl
  go_enter Tryd.func31, Tryd.ntmps31
  go_wp2_with fail
  with_reducible refine (sign_any A1 HN.out hk).mono ?_
  rintro e w2 ⟨rfl, hb2⟩
  have p1 := (HC.out.below hb2).c1
  go_wp2_with fail
  with_reducible refine (digits_d3 (A1.below hb2) hk).mono ?_
  rintro e w3 ⟨rfl, hb3⟩
  go_wp2
  go_ret
  exact ⟨rfl, K1.trans ((below_trans hb2 hb3).mono K1.size)⟩

set_option maxRecDepth 20000 in
set_option maxHeartbeats 2000000 in
theorem show_d1 {w : World} {v : Value} {k : Nat} (h : WArg w v (-1) k) (hk : k ≤ 1099511627776) :
    Calls Tryd.prog 31 #[v] w fun e w' => e = .returned (.string ⟨#[45, 49]⟩) ∧ Below w.heap.size w w' := by
  obtain ⟨neg, m, a, rfl, ha, hn⟩ := h
  have A1 := ha
  have N1 := ha.nonneg
  obtain ⟨zs, ⟨ao, cap, rfl, -⟩, -⟩ := ha
  have hna : neg = true ∧ a = 1 := by unfold wn at hn; cases neg <;> simp at hn <;> constructor <;> first | rfl | omega
  obtain ⟨rfl, rfl⟩ := hna
  have K1 : Below w.heap.size w (w.alloc (.cells #[.bool true, .slice ao zs.length cap] 25)) := bel_alloc _ _
  have C1 := cell2_new w (.bool true) (.slice ao zs.length cap) 25
  have HC := hide C1
  have HN := hide hn
  clear C1 hn
  replace A1 := A1.below K1
  have hsg : sgn (-1) 0 = -1 := by decide
  have hap : (⟨#[45]⟩ : ByteArray) ++ ⟨#[49]⟩ = ⟨#[45, 49]⟩ := rfl
  go_enter Tryd.func31, Tryd.ntmps31
  go_wp2_with fail
  with_reducible refine (sign_any A1 HN.out hk).mono ?_
  rintro e w2 ⟨rfl, hb2⟩
  have p1 := (HC.out.below hb2).c1
  go_wp2_with fail
  with_reducible refine (digits_d1 (A1.below hb2) hk).mono ?_
  rintro e w3 ⟨rfl, hb3⟩
  go_wp2
  go_ret
  exact ⟨rfl, K1.trans ((below_trans hb2 hb3).mono K1.size)⟩

set_option maxRecDepth 20000 in
set_option maxHeartbeats 2000000 in
theorem cutPrefix_5 {w : World} :
    Calls Tryd.prog 46 #[.string ⟨#[45, 53]⟩, .string ⟨#[45]⟩] w fun e w' => e = .returned (.tuple #[.string ⟨#[53]⟩, .bool true]) ∧ w' = w := by
  have x1 : ({ data := #[45, 53] } : ByteArray).extract 0 1 = { data := #[45] } := rfl
  have x2 : ({ data := #[45, 53] } : ByteArray).extract 1 2 = { data := #[53] } := rfl
  have x3 : (({ data := #[45] } : ByteArray) == { data := #[45] }) = true := by decide
  go_enter Tryd.func46, Tryd.ntmps46
  go_wp2
  go_ret2
  exact ⟨rfl, rfl⟩

set_option maxRecDepth 20000 in
set_option maxHeartbeats 4000000 in
theorem wread_5 {w : World} :
    Calls Tryd.prog 30 #[.string ⟨#[45, 53]⟩] w fun e w' => ∃ v, e = .returned (.tuple #[v, .bool true]) ∧ WNum w.heap.size w' v (-5) 2 ∧ Below w.heap.size w w' := by
  have K1 := bel_alloc w (.cells #[.bool false, .slice none 0 0] 25)
  have D1 := cell2_new w (.bool false) (.slice none 0 0) 25
  have HD := hide D1
  clear D1
  have lt1 := HD.out.lt
  go_enter Tryd.func30, Tryd.ntmps30
  go_wp2_with fail
  with_reducible refine cutPrefix_5.mono ?_
  rintro e w2 ⟨rfl, rfl⟩
  go_wp2_with fail
  with_reducible refine read_5.mono ?_
  rintro e w2 ⟨vn, rfl, hN, hb2⟩
  have hN' := hN
  obtain ⟨zs, ⟨ao, rfl, _, _⟩, hc, hv, _⟩ := hN
  have hz : ¬ (zs.length : Int) = 0 := by
    intro e
    have : zs = [] := List.eq_nil_of_length_eq_zero (by omega)
    rw [this] at hv
    exact absurd hv (by decide)
  have hz2 : ((zs.length : Int) == 0) = false := by simpa using hz
  clear hz hc hv
  go_wp2_with fail
  with_reducible refine (number_any hN' (by omega)).mono ?_
  rintro e w3 ⟨vr, rfl, hR, hb3⟩
  rw [if_pos rfl] at hR
  have K := below_trans hb2 hb3
  clear hb2 hb3 hN'
  obtain ⟨ng, ro, rl, rfl⟩ := hR.told
  have d0 := (HD.out.below K).c0
  have d1 := (HD.out.below K).c1
  have g0 := (HD.out.below K).f0
  have g1 := (HD.out.below K).f1
  go_wp2
  have PD := (HD.out.below K).put (.bool ng) (.slice ro rl rl)
  have KB := below_put2 (b := w.heap.size) (K1.trans (K.mono (by have := K1.size; omega))) (by omega) (.bool ng) (.slice ro rl rl)
  have WN := ((hR.put lt1 0 (.bool ng)).put lt1 1 (.slice ro rl rl)).low (B' := w.heap.size) (by omega)
  clear d0 d1 g0 g1 hR K K1 HD
  generalize (w3.setCell ⟨w.heap.size, 0, none⟩ (.bool ng)).setCell ⟨w.heap.size, 1, none⟩ (.slice ro rl rl) = w9 at *
  (try simp only [Exit.inBlock, Exit.then])
  exact bodyPost_ret (v := .tuple #[.agg #[.bool ng, .slice ro rl rl], .bool true]) (by simp [results, Tryd.results30, go_sem, PD.c0, PD.c1]) rfl ⟨_, rfl, WN, KB⟩

end Go.Proofs.YtmpdkeafbjibpaaDoor

namespace Go.Proofs.YtmpdkeafbjibpaaDoor
open Go.RowKit

theorem tstr_c {s : ByteArray} (h : TStr 2 (-1) s) : s = ⟨#[255, 255]⟩ :=
  tstr_one h ⟨[255, 255], by intro i; match i with | 0 => decide | 1 => decide | i + 2 => rw [Nt.lb_out (by simp)]; decide, rfl, rfl, by decide⟩
theorem fits_c : Fits 2 (-1) := by unfold Fits; decide

theorem wnum_five {B : Nat} {w : World} {ng : Bool} {ro : Option Addr} {rl k : Nat} (h : WNum B w (.agg #[.bool ng, .slice ro rl rl]) (-5) k) : ng = true ∧ rl = 1 := by
  obtain ⟨neg, m, a, e, hN, hn, _⟩ := h
  have hna : neg = true ∧ a = 5 := by
    have := hN.arg.nonneg
    unfold wn at hn; cases neg <;> simp at hn <;> constructor <;> first | rfl | omega
  obtain ⟨rfl, rfl⟩ := hna
  simp at e
  obtain ⟨rfl, rfl⟩ := e
  obtain ⟨ao, h1, _⟩ := hN.made (ys := [5]) (canon_one (by omega)) (val_one 5)
  simp at h1
  exact ⟨rfl, h1.2⟩

set_option maxRecDepth 20000 in
set_option maxHeartbeats 8000000 in
theorem wlives_any {w : World} :
    Calls Tryd.prog 15 #[] w fun e w' => e = .returned (.bool true) ∧ Below w.heap.size w w' := by
  go_enter Tryd.func15, Tryd.ntmps15
  go_wp2_with fail
  with_reducible refine (wfrom_any (n := -7) (by omega) (by omega)).mono ?_
  rintro e w1 ⟨va, rfl, ha, hb1⟩
  go_wp2_with fail
  with_reducible refine (wfrom_any (n := 2) (by omega) (by omega)).mono ?_
  rintro e w2 ⟨vb, rfl, hb, hb2⟩
  go_wp2_with fail
  with_reducible refine (wquo_any (ha.arg.below hb2) (by omega) hb.arg (by omega) (by omega)).mono ?_
  rintro e w3 ⟨vq, vr, rfl, hq, hr, hb3⟩
  have KB := below_trans (below_trans hb1 hb2) hb3
  have e1 : Int.tdiv (-7) 2 = -3 := by decide
  have e2 : Int.tmod (-7) 2 = -1 := by decide
  rw [e1] at hq
  rw [e2] at hr
  clear hb1 hb2 hb3 ha hb e1 e2
  obtain ⟨ng1, ro1, rl1, rfl⟩ := hq.told
  obtain ⟨ng2, ro2, rl2, rfl⟩ := hr.told
  go_wp2_with fail
  have z3 : (w3.alloc (.cells #[.bool ng1, .slice ro1 rl1 rl1] 25)).heap.size = w3.heap.size + 1 := by simp
  have C1 := (cell2_new w3 (.bool ng1) (.slice ro1 rl1 rl1) 25).alloc (.cells #[.bool ng2, .slice ro2 rl2 rl2] 25)
  have C2 := cell2_new (w3.alloc (.cells #[.bool ng1, .slice ro1 rl1 rl1] 25)) (.bool ng2) (.slice ro2 rl2 rl2) 25
  rw [z3] at C2
  have K4 := below_trans (bel_alloc w3 (.cells #[.bool ng1, .slice ro1 rl1 rl1] 25)) (bel_alloc _ (.cells #[.bool ng2, .slice ro2 rl2 rl2] 25))
  clear z3
  replace KB := below_trans KB K4
  replace hq := hq.below K4
  replace hr := hr.below K4
  clear K4
  have z4 : w3.heap.size + 1 < ((w3.alloc (.cells #[.bool ng1, .slice ro1 rl1 rl1] 25)).alloc (.cells #[.bool ng2, .slice ro2 rl2 rl2] 25)).heap.size := by simp
  obtain ⟨b1, hb1⟩ : ∃ b1, b1 = w3.heap.size := ⟨_, rfl⟩
  rw [← hb1] at C1 C2 z4 ⊢
  clear hb1
  generalize (w3.alloc (.cells #[.bool ng1, .slice ro1 rl1 rl1] 25)).alloc (.cells #[.bool ng2, .slice ro2 rl2 rl2] 25) = w4 at *
  with_reducible refine (wfrom_any (n := -1) (by omega) (by omega)).mono ?_
  rintro e w5 ⟨vc, rfl, hc, hb5⟩
  go_wp2_with fail
  have c6 := twos_any (N := 2) hc.arg (by omega) (by omega) (by omega)
  rw [show ((2 : Nat) : Int) = 2 from rfl] at c6
  with_reducible refine c6.mono ?_
  clear c6
  rintro e w6 ⟨⟨s, b, rfl, hsb⟩, hb6⟩
  obtain ⟨rfl, -, hts⟩ : b = true ∧ Fits 2 (-1) ∧ TStr 2 (-1) s := by
    rcases hsb with h | ⟨_, h, _⟩
    · exact h
    · exact absurd fits_c h
  obtain rfl := tstr_c hts
  go_wp2_with fail
  with_reducible refine wread_5.mono ?_
  rintro e w7 ⟨vx, rfl, hx, hb7⟩
  have K7 := below_trans (below_trans hb5 hb6) hb7
  replace KB := below_trans KB K7
  replace hq := hq.below K7
  replace hr := hr.below K7
  replace C1 := C1.below K7
  replace C2 := C2.below K7
  clear K7 hb5 hb6 hb7 hc hts hsb z4
  obtain ⟨ng3, ro3, rl3, rfl⟩ := hx.told
  have hng := wnum_five hx
  obtain ⟨rfl, rfl⟩ := hng
  go_upto_region 4 with fail
  have C3 := cell2_new w7 (.bool true) (.slice ro3 1 1) 25
  have K8 := bel_alloc w7 (.cells #[.bool true, .slice ro3 1 1] 25)
  replace KB := below_trans KB K8
  replace hq := hq.below K8
  replace hr := hr.below K8
  replace hx := hx.below K8
  replace C1 := C1.below K8
  replace C2 := C2.below K8
  clear K8
  obtain ⟨b3, hb3⟩ : ∃ b3, b3 = w7.heap.size := ⟨_, rfl⟩
  rw [← hb3] at C3 ⊢
  clear hb3
  generalize w7.alloc (.cells #[.bool true, .slice ro3 1 1] 25) = w8 at *
  have HC1 := hide C1
  have HC2 := hide C2
  have HC3 := hide C3
  have p1 := C1.c0
  have q1 := C1.c1
  have p2 := C2.c0
  have q2 := C2.c1
  have p3 := C3.c0
  have q3 := C3.c1
  clear C1 C2 C3
  have K : Below w8.heap.size w8 w8.drew := (Below.refl _ _).drew
  have s5 : sgn (-5) (-5) = 0 := by decide
  have t1 : (({ data := #[45, 51] } : ByteArray) == { data := #[45, 51] }) = true := by decide
  have t2 : (({ data := #[45, 49] } : ByteArray) == { data := #[45, 49] }) = true := by decide
  have t3 : (({ data := #[255, 255] } : ByteArray) == { data := #[255, 255] }) = true := by decide
  go_region_held3 (fun w' => w'.cell? ⟨b1, 0, none⟩ = some (.bool ng1) ∧ w'.cell? ⟨b1, 1, none⟩ = some (.slice ro1 rl1 rl1) ∧ w'.cell? ⟨b1 + 1, 0, none⟩ = some (.bool ng2) ∧ w'.cell? ⟨b1 + 1, 1, none⟩ = some (.slice ro2 rl2 rl2) ∧ w'.cell? ⟨b3, 0, none⟩ = some (.bool true) ∧ w'.cell? ⟨b3, 1, none⟩ = some (.slice ro3 1 1))
    (first
      | with_reducible exact ⟨(HC1.out.below K).c0, (HC1.out.below K).c1, (HC2.out.below K).c0, (HC2.out.below K).c1, (HC3.out.below K).c0, (HC3.out.below K).c1⟩
      | go_keep)
    (first
      | (go_at_call 31; first | (with_reducible refine (show_d3 (hq.arg.below K) (by omega)).mono ?_; rintro e w9 ⟨rfl, hb⟩; replace K := below_trans K hb; clear hb) | (with_reducible refine (show_d1 (hr.arg.below K) (by omega)).mono ?_; rintro e w9 ⟨rfl, hb⟩; replace K := below_trans K hb; clear hb))
      | (go_at_call 14; with_reducible refine (wfrom_any (n := -5) (by omega) (by omega)).mono ?_; rintro e w9 ⟨v5, rfl, h5, hb⟩; replace K := below_trans K hb; clear hb)
      | (go_at_call 16; with_reducible refine (wcmp_any (hx.arg.below K) h5.arg (by omega) (by omega)).mono ?_; rintro e w9 ⟨rfl, hb⟩; replace K := below_trans K hb; clear hb))
  all_goals go_wp2
  all_goals go_ret
  all_goals exact ⟨rfl, below_trans KB K⟩

end Go.Proofs.YtmpdkeafbjibpaaDoor
