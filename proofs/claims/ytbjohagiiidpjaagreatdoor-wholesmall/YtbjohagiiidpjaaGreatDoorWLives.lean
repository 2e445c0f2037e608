/- cruciblelaw03.lives -/
import Derived.Test.YtbjohagiiidpjaaGreatDoorWLivesA
import Derived.Test.YtbjohagiiidpjaaGreatDoorWKit
namespace Go.Proofs.YtbjohagiiidpjaaGreatDoor
open Go.RowKit

theorem tstr_c {s : ByteArray} (h : TStr 2 (-1) s) : s = ⟨#[255, 255]⟩ :=
  tstr_one h ⟨[255, 255], by intro i; match i with | 0 => decide | 1 => decide | i + 2 => rw [Nt.lb_out (by simp)]; decide, rfl, rfl, by decide⟩
theorem fits_c : Fits 2 (-1) := by decide

theorem wnum_five {B : Nat} {w : World} {ng : Bool} {ro : Option Addr} {rl k : Nat} (h : WNum B w (.agg #[.bool ng, .slice ro rl rl]) (-5) k) : ng = true ∧ rl = 1 := by
  obtain ⟨neg, m, a, e, hN, hn, _⟩ := h
  have hna : neg = true ∧ a = 5 := by
    have := hN.arg.nonneg
    unfold wn at hn; cases neg <;> simp at hn <;> constructor <;> first | rfl | omega
  obtain ⟨rfl, rfl⟩ := hna
  simp at e
  obtain ⟨rfl, rfl⟩ := e
  obtain ⟨ao, h1, _⟩ := hN.made (ys := [5]) (canon_one (by omega)) (val_one 5)
  simp at h1
  exact ⟨rfl, h1.2⟩

set_option maxRecDepth 20000 in
set_option maxHeartbeats 8000000 in
theorem wlives_any {w : World} :
    Calls Tryz.prog 20 #[] w fun e w' => e = .returned (.bool true) ∧ Below w.heap.size w w' := by
  go_enter Tryz.func20, Tryz.ntmps20
  go_wp2_with fail
  with_reducible refine (wfrom_any (n := -7) (by omega) (by omega)).mono ?_
  rintro e w1 ⟨va, rfl, ha, hb1⟩
  go_wp2_with fail
  with_reducible refine (wfrom_any (n := 2) (by omega) (by omega)).mono ?_
  rintro e w2 ⟨vb, rfl, hb, hb2⟩
  go_wp2_with fail
  with_reducible refine (wquo_any (ha.arg.below hb2) (by omega) hb.arg (by omega) (by omega)).mono ?_
  rintro e w3 ⟨vq, vr, rfl, hq, hr, hb3⟩
  have KB := below_trans (below_trans hb1 hb2) hb3
  have e1 : Int.tdiv (-7) 2 = -3 := by decide
  have e2 : Int.tmod (-7) 2 = -1 := by decide
  rw [e1] at hq
  rw [e2] at hr
  clear hb1 hb2 hb3 ha hb e1 e2
  obtain ⟨ng1, ro1, rl1, rfl⟩ := hq.told
  obtain ⟨ng2, ro2, rl2, rfl⟩ := hr.told
  go_wp2_with fail
  have z3 : (w3.alloc (.cells #[.bool ng1, .slice ro1 rl1 rl1] 25)).heap.size = w3.heap.size + 1 := by simp
  have C1 := (cell2_new w3 (.bool ng1) (.slice ro1 rl1 rl1) 25).alloc (.cells #[.bool ng2, .slice ro2 rl2 rl2] 25)
  have C2 := cell2_new (w3.alloc (.cells #[.bool ng1, .slice ro1 rl1 rl1] 25)) (.bool ng2) (.slice ro2 rl2 rl2) 25
  rw [z3] at C2
  have K4 := below_trans (bel_alloc w3 (.cells #[.bool ng1, .slice ro1 rl1 rl1] 25)) (bel_alloc _ (.cells #[.bool ng2, .slice ro2 rl2 rl2] 25))
  clear z3
  replace KB := below_trans KB K4
  replace hq := hq.below K4
  replace hr := hr.below K4
  clear K4
  have z4 : w3.heap.size + 1 < ((w3.alloc (.cells #[.bool ng1, .slice ro1 rl1 rl1] 25)).alloc (.cells #[.bool ng2, .slice ro2 rl2 rl2] 25)).heap.size := by simp
  obtain ⟨b1, hb1⟩ : ∃ b1, b1 = w3.heap.size := ⟨_, rfl⟩
  rw [← hb1] at C1 C2 z4 ⊢
  clear hb1
  generalize (w3.alloc (.cells #[.bool ng1, .slice ro1 rl1 rl1] 25)).alloc (.cells #[.bool ng2, .slice ro2 rl2 rl2] 25) = w4 at *
  with_reducible refine (wfrom_any (n := -1) (by omega) (by omega)).mono ?_
  rintro e w5 ⟨vc, rfl, hc, hb5⟩
  go_wp2_with fail
  have c6 := twos_any (N := 2) hc.arg (by omega) (by omega) (by omega)
  rw [show ((2 : Nat) : Int) = 2 from rfl] at c6
  with_reducible refine c6.mono ?_
  clear c6
  rintro e w6 ⟨⟨s, b, rfl, hsb⟩, hb6⟩
  obtain ⟨rfl, -, hts⟩ : b = true ∧ Fits 2 (-1) ∧ TStr 2 (-1) s := by
    rcases hsb with h | ⟨_, h, _⟩
    · exact h
    · exact absurd fits_c h
  obtain rfl := tstr_c hts
  go_wp2_with fail
  with_reducible refine wread_5.mono ?_
  rintro e w7 ⟨vx, rfl, hx, hb7⟩
  have K7 := below_trans (below_trans hb5 hb6) hb7
  replace KB := below_trans KB K7
  replace hq := hq.below K7
  replace hr := hr.below K7
  replace C1 := C1.below K7
  replace C2 := C2.below K7
  clear K7 hb5 hb6 hb7 hc hts hsb z4
  obtain ⟨ng3, ro3, rl3, rfl⟩ := hx.told
  have hng := wnum_five hx
  obtain ⟨rfl, rfl⟩ := hng
  go_upto_region 4 with fail
  have C3 := cell2_new w7 (.bool true) (.slice ro3 1 1) 25
  have K8 := bel_alloc w7 (.cells #[.bool true, .slice ro3 1 1] 25)
  replace KB := below_trans KB K8
  replace hq := hq.below K8
  replace hr := hr.below K8
  replace hx := hx.below K8
  replace C1 := C1.below K8
  replace C2 := C2.below K8
  clear K8
  obtain ⟨b3, hb3⟩ : ∃ b3, b3 = w7.heap.size := ⟨_, rfl⟩
  rw [← hb3] at C3 ⊢
  clear hb3
  generalize w7.alloc (.cells #[.bool true, .slice ro3 1 1] 25) = w8 at *
  have HC1 := hide C1
  have HC2 := hide C2
  have HC3 := hide C3
  have p1 := C1.c0
  have q1 := C1.c1
  have p2 := C2.c0
  have q2 := C2.c1
  have p3 := C3.c0
  have q3 := C3.c1
  clear C1 C2 C3
  have K : Below w8.heap.size w8 w8.drew := (Below.refl _ _).drew
  have s5 : sgn (-5) (-5) = 0 := by decide
  have t1 : (({ data := #[45, 51] } : ByteArray) == { data := #[45, 51] }) = true := by decide
  have t2 : (({ data := #[45, 49] } : ByteArray) == { data := #[45, 49] }) = true := by decide
  have t3 : (({ data := #[255, 255] } : ByteArray) == { data := #[255, 255] }) = true := by decide
  go_region_held3 (fun w' => w'.cell? ⟨b1, 0, none⟩ = some (.bool ng1) ∧ w'.cell? ⟨b1, 1, none⟩ = some (.slice ro1 rl1 rl1) ∧ w'.cell? ⟨b1 + 1, 0, none⟩ = some (.bool ng2) ∧ w'.cell? ⟨b1 + 1, 1, none⟩ = some (.slice ro2 rl2 rl2) ∧ w'.cell? ⟨b3, 0, none⟩ = some (.bool true) ∧ w'.cell? ⟨b3, 1, none⟩ = some (.slice ro3 1 1))
    (first
      | with_reducible exact ⟨(HC1.out.below K).c0, (HC1.out.below K).c1, (HC2.out.below K).c0, (HC2.out.below K).c1, (HC3.out.below K).c0, (HC3.out.below K).c1⟩
      | go_keep)
    (first
      | (go_at_call 57; first | (with_reducible refine (show_d3 (hq.arg.below K) (by omega)).mono ?_; rintro e w9 ⟨rfl, hb⟩; replace K := below_trans K hb; clear hb) | (with_reducible refine (show_d1 (hr.arg.below K) (by omega)).mono ?_; rintro e w9 ⟨rfl, hb⟩; replace K := below_trans K hb; clear hb))
      | (go_at_call 18; with_reducible refine (wfrom_any (n := -5) (by omega) (by omega)).mono ?_; rintro e w9 ⟨v5, rfl, h5, hb⟩; replace K := below_trans K hb; clear hb)
      | (go_at_call 21; with_reducible refine (wcmp_any (hx.arg.below K) h5.arg (by omega) (by omega)).mono ?_; rintro e w9 ⟨rfl, hb⟩; replace K := below_trans K hb; clear hb))
  all_goals go_wp2
  all_goals go_ret
  all_goals exact ⟨rfl, below_trans KB K⟩

end Go.Proofs.YtbjohagiiidpjaaGreatDoor
